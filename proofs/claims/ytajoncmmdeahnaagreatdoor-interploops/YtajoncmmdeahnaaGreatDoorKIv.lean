/-
  The interpreter: a tree with its places. The interpreter: a declaration with its places.
-/
import Derived.Test.YtajoncmmdeahnaaGreatDoorIt
import Derived.Test.YtajoncmmdeahnaaGreatDoorKCb
import Derived.Deep.CutRange
namespace Go.Proofs.YtajoncmmdeahnaaGreatDoor
open Go.RowKit
namespace Ip
theorem placeL_snoc (nm : ByteArray) (x : Nd) : ∀ (l : List Nd) (i : Int), placeL nm (l ++ [x]) i = ((placeL nm l i).1 ++ [(placeT nm x (placeL nm l i).2).1], (placeT nm x (placeL nm l i).2).2)
  | [], i => by rw [List.nil_append, placeL, placeL, placeL]; rfl
  | y :: r, i => by
    rw [List.cons_append, placeL, placeL, placeL_snoc nm x r]
    rfl
theorem placeT_mk (nm : ByteArray) (k t : Int) (s : ByteArray) (n : Int) (ks : List Nd) (i : Int) : placeT nm (.mk k t s n ks) i = (.mk k t s n nm i (placeL nm ks (wrap64 (i + 1))).1, (placeL nm ks (wrap64 (i + 1))).2) := by rw [placeT]
theorem placeL_len (nm : ByteArray) : ∀ (l : List Nd) (i : Int), (placeL nm l i).1.length = l.length
  | [], i => by rw [placeL]; rfl
  | y :: r, i => by rw [placeL]; simp [placeL_len nm r]
def PlQ (w : World) (nm : ByteArray) (i : Int) (x : Nd) (e : Ending) (w' : World) : Prop := ∃ v, e = .returned (.tuple #[v, .agg #[.string nm, .int .i64 (placeT nm x i).2]]) ∧ PdV w' (fun g => w.heap.size ≤ g) v (placeT nm x i).1 ∧ w.grownBy w' none
structure PlI (w : World) (k t : Int) (s : ByteArray) (n : Int) (q : Value) (nm : ByteArray) (i i1 : Int) (ps : List Pd) (v : Value) (m : Nat) (wr : World) : Prop where
  g : w.grownBy wr none
  b0 : Blk wr w.heap.size 27 #[.int .i64 k, .int .i64 t, .string s, .int .i64 n, q]
  b1 : Blk wr (w.heap.size + 1) 118 #[.string nm, .int .i64 i1]
  b2 : Blk wr (w.heap.size + 1 + 1) 121 #[.int .i64 0, .int .i64 0, .string ⟨#[]⟩, .int .i64 0, .slice none 0 0, .string ⟨#[]⟩, .int .i64 0, .slice none 0 0]
  b3 : Blk wr (w.heap.size + 1 + 1 + 1) 118 #[.string ⟨#[]⟩, .int .i64 0]
  b4 : Blk wr (w.heap.size + 1 + 1 + 1 + 1) 121 #[.int .i64 k, .int .i64 t, .string s, .int .i64 n, .slice none 0 0, .string nm, .int .i64 i, v]
  kq : Kq (fun g => w.heap.size + 1 + 1 + 1 + 1 + 1 ≤ g ∧ g < m) wr (w.heap.size + 1 + 1 + 1 + 1 + 1) 121 v ps
section
variable {w wr w' : World} {k t : Int} {s : ByteArray} {n : Int} {q : Value} {nm : ByteArray} {i i1 : Int} {ps : List Pd} {v : Value} {m : Nat}
theorem PlI.kept (h : PlI w k t s n q nm i i1 ps v m wr) (hg : wr.grownBy w' none) : PlI w k t s n q nm i i1 ps v m w' :=
  ⟨grown_none h.g hg, h.b0.kept hg (by simp), h.b1.kept hg (by simp), h.b2.kept hg (by simp), h.b3.kept hg (by simp), h.b4.kept hg (by simp), h.kq.kept hg (fun r e => by cases e)⟩
theorem PlI.place (h : PlI w k t s n q nm i i1 ps v m wr) (j1 : Int) : PlI w k t s n q nm i j1 ps v m ((wr.setCell ⟨w.heap.size + 1, 0, none⟩ (.string nm)).setCell ⟨w.heap.size + 1, 1, none⟩ (.int .i64 j1)) := by
  have G : wr.grownBy ((wr.setCell ⟨w.heap.size + 1, 0, none⟩ (.string nm)).setCell ⟨w.heap.size + 1, 1, none⟩ (.int .i64 j1)) (some (w.heap.size + 1)) := grown_set (grown_set (grown_refl wr (some (w.heap.size + 1))) 0 _) 1 _
  refine ⟨grown_ob' h.g G (fun x e => by injection e with e; omega), h.b0.kept G (fun e => by injection e with e; omega), ?_, h.b2.kept G (fun e => by injection e with e; omega), h.b3.kept G (fun e => by injection e with e; omega), h.b4.kept G (fun e => by injection e with e; omega), h.kq.kept G (fun r e => by injection e with e; exact ⟨by omega, fun hh => by have hh : w.heap.size + 1 + 1 + 1 + 1 + 1 ≤ r := hh.1; omega⟩)⟩
  simpa using (h.b1.set 0 (.string nm)).set 1 (.int .i64 j1)
theorem PlI.fill (h : PlI w k t s n q nm i i1 ps v m wr) {b : Nat} (hb : w.heap.size + 1 + 1 + 1 + 1 + 1 ≤ b) (hm : m ≤ b) (hv : ∀ r, v.ownBlock = some r → r ≠ b) (hg : wr.grownBy w' (some b)) : PlI w k t s n q nm i i1 ps v m w' := by
  refine ⟨grown_ob' h.g hg (fun x e => by injection e with e; omega), h.b0.kept hg (fun e => by injection e with e; omega), h.b1.kept hg (fun e => by injection e with e; omega), h.b2.kept hg (fun e => by injection e with e; omega), h.b3.kept hg (fun e => by injection e with e; omega), h.b4.kept hg (fun e => by injection e with e; omega), ?_⟩
  obtain ⟨cs, h1, h2, h3⟩ := h.kq
  refine ⟨cs, h1.kept hg ?_, h2.keptP (Kp.of_grown hg (fun c hc e => by injection e with e; have := hc.1.2; omega)) (fun _ hh _ => hh), h3⟩
  cases e : v.ownBlock with
  | none => exact Or.inl rfl
  | some r => exact Or.inr (fun e2 => hv r e (Option.some.inj e2))
theorem PlI.mono (h : PlI w k t s n q nm i i1 ps v m wr) {m' : Nat} (hm : m ≤ m') : PlI w k t s n q nm i i1 ps v m' wr := by
  obtain ⟨cs, h1, h2, h3⟩ := h.kq
  exact ⟨h.g, h.b0, h.b1, h.b2, h.b3, h.b4, cs, h1, h2.keptP (fun _ _ _ => rfl) (fun _ hh _ => ⟨⟨hh.1.1, Nat.lt_of_lt_of_le hh.1.2 hm⟩, hh.2⟩), h3⟩
theorem PlI.add (h : PlI w k t s n q nm i i1 ps v m wr) (hg : wr.grownBy w' v.ownBlock) {v' : Value} {ps' : List Pd} (hk : Kq (fun g => w.heap.size + 1 + 1 + 1 + 1 + 1 ≤ g ∧ g < m) w' (w.heap.size + 1 + 1 + 1 + 1 + 1) 121 v' ps') : PlI w k t s n q nm i i1 ps' v' m (w'.setCell ⟨w.heap.size + 1 + 1 + 1 + 1, 7, none⟩ v') := by
  have hl := h.kq.lt
  have G := grown_set (grown_refl w' (some (w.heap.size + 1 + 1 + 1 + 1))) 7 v'
  have g1 : w.grownBy w' none := grown_ob' h.g hg (fun x e => by have := (hl x e).1; omega)
  have ne : ∀ b, b < w.heap.size + 1 + 1 + 1 + 1 + 1 → some b ≠ v.ownBlock := fun b hb e => by have := (hl b e.symm).1; omega
  refine ⟨grown_ob' g1 G (fun x e => by injection e with e; omega), (h.b0.kept hg (ne _ (by omega))).kept G (fun e => by injection e with e; omega), (h.b1.kept hg (ne _ (by omega))).kept G (fun e => by injection e with e; omega), (h.b2.kept hg (ne _ (by omega))).kept G (fun e => by injection e with e; omega), (h.b3.kept hg (ne _ (by omega))).kept G (fun e => by injection e with e; omega), ?_, hk.kept G (fun r e => by injection e with e; exact ⟨by omega, fun hh => by have hh : w.heap.size + 1 + 1 + 1 + 1 + 1 ≤ r := hh.1; omega⟩)⟩
  simpa using (h.b4.kept hg (ne _ (by omega))).set 7 v'
theorem PlI.at4 (h : PlI w k t s n q nm i i1 ps v m wr) (hg : wr.grownBy w' v.ownBlock) : Blk w' (w.heap.size + 1 + 1 + 1 + 1) 121 #[.int .i64 k, .int .i64 t, .string s, .int .i64 n, .slice none 0 0, .string nm, .int .i64 i, v] := h.b4.kept hg (fun e => by have := (h.kq.lt _ e.symm).1; omega)
end
theorem blk8 {w : World} {b : Nat} (h : Blk w b 121 #[.int .i64 0, .int .i64 0, .string ⟨#[]⟩, .int .i64 0, .slice none 0 0, .string ⟨#[]⟩, .int .i64 0, .slice none 0 0]) (a0 a1 a2 a3 a4 a5 a6 a7 : Value) : Blk ((((((((w.setCell ⟨b, 0, none⟩ a0).setCell ⟨b, 1, none⟩ a1).setCell ⟨b, 2, none⟩ a2).setCell ⟨b, 3, none⟩ a3).setCell ⟨b, 4, none⟩ a4).setCell ⟨b, 5, none⟩ a5).setCell ⟨b, 6, none⟩ a6).setCell ⟨b, 7, none⟩ a7) b 121 #[a0, a1, a2, a3, a4, a5, a6, a7] := by
  simpa using (((((((h.set 0 a0).set 1 a1).set 2 a2).set 3 a3).set 4 a4).set 5 a5).set 6 a6).set 7 a7
theorem grown8 (w : World) (b : Nat) (a0 a1 a2 a3 a4 a5 a6 a7 : Value) : w.grownBy ((((((((w.setCell ⟨b, 0, none⟩ a0).setCell ⟨b, 1, none⟩ a1).setCell ⟨b, 2, none⟩ a2).setCell ⟨b, 3, none⟩ a3).setCell ⟨b, 4, none⟩ a4).setCell ⟨b, 5, none⟩ a5).setCell ⟨b, 6, none⟩ a6).setCell ⟨b, 7, none⟩ a7) (some b) :=
  grown_set (grown_set (grown_set (grown_set (grown_set (grown_set (grown_set (grown_set (grown_refl w (some b)) 0 _) 1 _) 2 _) 3 _) 4 _) 5 _) 6 _) 7 _
def PlJ (w : World) (k t : Int) (s : ByteArray) (n : Int) (q : Value) (nm : ByteArray) (i i1 : Int) (ps : List Pd) (v : Value) (y : Pd) (m : Nat) (W : World) : Prop := ∃ qy, PlI w k t s n q nm i i1 ps v m W ∧ (∀ r, v.ownBlock = some r → r < m) ∧ Blk W (m + 1) 121 #[.int .i64 y.kind, .int .i64 y.ty, .string y.txt, .int .i64 y.num, .slice none 0 0, .string y.nm, .int .i64 y.pl, qy] ∧ KsP W (fun g => m + 2 ≤ g) qy y.kids
set_option maxRecDepth 100000 in
set_option maxHeartbeats 4000000 in
theorem placed_go (k t : Int) (s : ByteArray) (n : Int) (q : Value) (ks : List Nd) (P : Nat → Prop) (nm : ByteArray) (i : Int) (w : World) (hl : ks.length ≤ 10000) (hks : KsV w P q ks)
    (ih : ∀ y ∈ ks, ∀ (i : Int) (v : Value) (W : World), NdV W P v y → Calls Tryz.prog 147 #[v, .agg #[.string nm, .int .i64 i]] W (PlQ W nm i y)) :
    Calls Tryz.prog 147 #[.agg #[.int .i64 k, .int .i64 t, .string s, .int .i64 n, q], .agg #[.string nm, .int .i64 i]] w (PlQ w nm i (.mk k t s n ks)) := by
  unfold PlQ
  rw [placeT_mk]
  obtain ⟨p, c, rfl, _, _, _⟩ := hks.form
  have HK := hid hks
  have IH := hid ih
  obtain ⟨L, hL⟩ : ∃ L, ks.length = L := ⟨_, rfl⟩
  have HL : Hid (ks.length = L) := hL
  rw [hL] at hl
  have HK' : Hid (KsV w P (.slice p L c) ks) := by rw [← hL]; exact HK.out
  rw [hL]
  clear HK hL hks ih
  have i1 : (L : Int) ≤ 10000 := by omega
  go_enter Tryz.func147, Tryz.ntmps147
  go_wp2
  go_loopw [22] (fun i' wr => ∃ (j : Nat) (v : Value), j ≤ L ∧ i' = .int .i64 j ∧ PlI w k t s n (.slice p L c) nm i (placeL nm (ks.take j) (wrap64 (i + 1))).2 (placeL nm (ks.take j) (wrap64 (i + 1))).1 v wr.heap.size wr) (fun i' _ => L - (intOf i').toNat)
  case atStart =>
    refine ⟨0, .slice none 0 0, Nat.zero_le _, rfl, ?_, ?_, ?_, ?_, ?_, ?_, ?_⟩
    · exact grown_alloc (grown_alloc (grown_alloc (grown_alloc (grown_alloc (grown_refl w none) _) _) _) _) _
    · exact ((((Blk.new w 27 _).alloc _).alloc _).alloc _).alloc _
    · have h := (((Blk.new (w.alloc (.cells #[.int .i64 k, .int .i64 t, .string s, .int .i64 n, .slice p L c] 27)) 118 #[.string nm, .int .i64 (wrap64 (i + 1))]).alloc (.cells #[.int .i64 0, .int .i64 0, .string ⟨#[]⟩, .int .i64 0, .slice none 0 0, .string ⟨#[]⟩, .int .i64 0, .slice none 0 0] 121)).alloc (.cells #[.string ⟨#[]⟩, .int .i64 0] 118)).alloc (.cells #[.int .i64 k, .int .i64 t, .string s, .int .i64 n, .slice none 0 0, .string nm, .int .i64 i, .slice none 0 0] 121)
      rw [World.size_alloc] at h
      rw [List.take_zero, placeL]
      exact h
    · have h := ((Blk.new ((w.alloc (.cells #[.int .i64 k, .int .i64 t, .string s, .int .i64 n, .slice p L c] 27)).alloc (.cells #[.string nm, .int .i64 (wrap64 (i + 1))] 118)) 121 #[.int .i64 0, .int .i64 0, .string ⟨#[]⟩, .int .i64 0, .slice none 0 0, .string ⟨#[]⟩, .int .i64 0, .slice none 0 0]).alloc (.cells #[.string ⟨#[]⟩, .int .i64 0] 118)).alloc (.cells #[.int .i64 k, .int .i64 t, .string s, .int .i64 n, .slice none 0 0, .string nm, .int .i64 i, .slice none 0 0] 121)
      rw [World.size_alloc, World.size_alloc] at h
      exact h
    · have h := (Blk.new (((w.alloc (.cells #[.int .i64 k, .int .i64 t, .string s, .int .i64 n, .slice p L c] 27)).alloc (.cells #[.string nm, .int .i64 (wrap64 (i + 1))] 118)).alloc (.cells #[.int .i64 0, .int .i64 0, .string ⟨#[]⟩, .int .i64 0, .slice none 0 0, .string ⟨#[]⟩, .int .i64 0, .slice none 0 0] 121)) 118 #[.string ⟨#[]⟩, .int .i64 0]).alloc (.cells #[.int .i64 k, .int .i64 t, .string s, .int .i64 n, .slice none 0 0, .string nm, .int .i64 i, .slice none 0 0] 121)
      rw [World.size_alloc, World.size_alloc, World.size_alloc] at h
      exact h
    · have h := Blk.new ((((w.alloc (.cells #[.int .i64 k, .int .i64 t, .string s, .int .i64 n, .slice p L c] 27)).alloc (.cells #[.string nm, .int .i64 (wrap64 (i + 1))] 118)).alloc (.cells #[.int .i64 0, .int .i64 0, .string ⟨#[]⟩, .int .i64 0, .slice none 0 0, .string ⟨#[]⟩, .int .i64 0, .slice none 0 0] 121)).alloc (.cells #[.string ⟨#[]⟩, .int .i64 0] 118)) 121 #[.int .i64 k, .int .i64 t, .string s, .int .i64 n, .slice none 0 0, .string nm, .int .i64 i, .slice none 0 0]
      rw [World.size_alloc, World.size_alloc, World.size_alloc, World.size_alloc] at h
      exact h
    · rw [List.take_zero, placeL]
      exact Kq.nil _ _ _
  case round =>
    obtain ⟨j, v, hj, rfl, hI⟩ := hrel
    have j0 : (0 : Int) ≤ j := by omega
    have II := hid hI
    by_cases hlt : j < L
    · have j1 : (j : Int) < L := by omega
      have hjk : j < ks.length := by rw [HL.out]; exact hlt
      obtain ⟨g', hp, _, hat⟩ := (HK'.out.kept hI.g).at j hjk
      subst hp
      obtain ⟨qx, c0, c1, c2, c3, c4, hkx⟩ := hat.cells
      rw [Nat.mul_comm 5 j] at c0 c1 c2 c3 c4
      obtain ⟨px, cx, rfl, _, _, _⟩ := hkx.form
      have HMEM := hid (List.getElem_mem hjk)
      have SN := hid (placeL_snoc nm ks[j] (ks.take j) (wrap64 (i + 1)))
      have TK : Hid (ks.take (j + 1) = ks.take j ++ [ks[j]]) := hid (List.take_succ_eq_append_getElem hjk)
      have LN := hid (placeL_len nm (ks.take j) (wrap64 (i + 1)))
      have LT : Hid ((ks.take j).length ≤ j ∧ j < L) := hid ⟨by rw [List.length_take]; omega, hlt⟩
      clear hI hat
      generalize ks[j] = x at *
      generalize placeL nm (ks.take j) (wrap64 (i + 1)) = pr at *
      obtain ⟨ps, i1⟩ := pr
      simp only at II SN LN
      have GA := grown_alloc (grown_alloc (grown_refl wr none) (.cells #[.int .i64 x.kind, .int .i64 x.ty, .string x.txt, .int .i64 x.num, .slice px x.kids.length cx] 27)) (.cells #[.int .i64 0, .int .i64 0, .string ⟨#[]⟩, .int .i64 0, .slice none 0 0, .string ⟨#[]⟩, .int .i64 0, .slice none 0 0] 121)
      have IA := hid (II.out.kept GA)
      have NV : Hid (NdV ((wr.alloc (.cells #[.int .i64 x.kind, .int .i64 x.ty, .string x.txt, .int .i64 x.num, .slice px x.kids.length cx] 27)).alloc (.cells #[.int .i64 0, .int .i64 0, .string ⟨#[]⟩, .int .i64 0, .slice none 0 0, .string ⟨#[]⟩, .int .i64 0, .slice none 0 0] 121)) P (.agg #[.int .i64 x.kind, .int .i64 x.ty, .string x.txt, .int .i64 x.num, .slice px x.kids.length cx]) x) := hid ⟨_, rfl, hkx.kept GA⟩
      have B8 := (Blk.new wr 27 #[.int .i64 x.kind, .int .i64 x.ty, .string x.txt, .int .i64 x.num, .slice px x.kids.length cx]).alloc (.cells #[.int .i64 0, .int .i64 0, .string ⟨#[]⟩, .int .i64 0, .slice none 0 0, .string ⟨#[]⟩, .int .i64 0, .slice none 0 0] 121)
      have B9 : Hid (Blk ((wr.alloc (.cells #[.int .i64 x.kind, .int .i64 x.ty, .string x.txt, .int .i64 x.num, .slice px x.kids.length cx] 27)).alloc (.cells #[.int .i64 0, .int .i64 0, .string ⟨#[]⟩, .int .i64 0, .slice none 0 0, .string ⟨#[]⟩, .int .i64 0, .slice none 0 0] 121)) (wr.heap.size + 1) 121 #[.int .i64 0, .int .i64 0, .string ⟨#[]⟩, .int .i64 0, .slice none 0 0, .string ⟨#[]⟩, .int .i64 0, .slice none 0 0]) := hid (by simpa using Blk.new (wr.alloc (.cells #[.int .i64 x.kind, .int .i64 x.ty, .string x.txt, .int .i64 x.num, .slice px x.kids.length cx] 27)) 121 #[.int .i64 0, .int .i64 0, .string ⟨#[]⟩, .int .i64 0, .slice none 0 0, .string ⟨#[]⟩, .int .i64 0, .slice none 0 0])
      have d0 := B8.cell 0
      have d1 := B8.cell 1
      have d2 := B8.cell 2
      have d3 := B8.cell 3
      have d4 := B8.cell 4
      have e0 := IA.out.b1.cell 0
      have e1 := IA.out.b1.cell 1
      simp at d0 d1 d2 d3 d4 e0 e1
      have VB := hid (II.out.kq.lt)
      have WS : Hid (w.heap.size + 5 ≤ wr.heap.size) := hid (by have := II.out.b4.lt; omega)
      have ne1 : w.heap.size ≠ wr.heap.size := by have := II.out.b4.lt; omega
      have ne2 : wr.heap.size ≠ w.heap.size := Ne.symm ne1
      clear hkx GA B8
      obtain ⟨y, i2, hy⟩ : ∃ y i2, placeT nm x i1 = (y, i2) := ⟨_, _, rfl⟩
      have CC : Hid (Calls Tryz.prog 147 #[.agg #[.int .i64 x.kind, .int .i64 x.ty, .string x.txt, .int .i64 x.num, .slice px x.kids.length cx], .agg #[.string nm, .int .i64 i1]] ((wr.alloc (.cells #[.int .i64 x.kind, .int .i64 x.ty, .string x.txt, .int .i64 x.num, .slice px x.kids.length cx] 27)).alloc (.cells #[.int .i64 0, .int .i64 0, .string ⟨#[]⟩, .int .i64 0, .slice none 0 0, .string ⟨#[]⟩, .int .i64 0, .slice none 0 0] 121)) fun e w' => ∃ py cy, e = .returned (.tuple #[.agg #[.int .i64 y.kind, .int .i64 y.ty, .string y.txt, .int .i64 y.num, .slice none 0 0, .string y.nm, .int .i64 y.pl, .slice py y.kids.length cy], .agg #[.string nm, .int .i64 i2]]) ∧ KsP w' (fun g => wr.heap.size + 2 ≤ g) (.slice py y.kids.length cy) y.kids ∧ ((wr.alloc (.cells #[.int .i64 x.kind, .int .i64 x.ty, .string x.txt, .int .i64 x.num, .slice px x.kids.length cx] 27)).alloc (.cells #[.int .i64 0, .int .i64 0, .string ⟨#[]⟩, .int .i64 0, .slice none 0 0, .string ⟨#[]⟩, .int .i64 0, .slice none 0 0] 121)).grownBy w' none) := hid ((IH.out x HMEM.out i1 _ _ NV.out).mono (by
        rintro e w2 ⟨vv, rfl, ⟨qy, rfl, hky⟩, hg⟩
        rw [hy] at hky ⊢
        obtain ⟨py, cy, rfl, _, _, _⟩ := hky.form
        refine ⟨py, cy, rfl, hky.mono (fun b hb _ => ?_), hg⟩
        rw [World.size_alloc, World.size_alloc] at hb
        exact hb))
      have HY := hid hy
      clear hy
      go_upto_region 8 with fail
      go_cut [] from 26 to 31 (fun W => PlJ w k t s n (.slice (some ⟨g', 0, none⟩) L c) nm i i2 ps v y wr.heap.size W)
      case first =>
        go_wp2_with (go_at_call 147; refine CC.out.mono ?_; rintro e w2 ⟨py, cy, rfl, hky, hg⟩; have KY := hid hky; have I2 := hid (IA.out.kept hg); have B92 := hid (B9.out.kept hg (by simp)); have h0 := B92.out.cell 0; have f0 := B92.out.frozen 0; have h1 := B92.out.cell 1; have f1 := B92.out.frozen 1; have h2 := B92.out.cell 2; have f2 := B92.out.frozen 2; have h3 := B92.out.cell 3; have f3 := B92.out.frozen 3; have h4 := B92.out.cell 4; have f4 := B92.out.frozen 4; have h5 := B92.out.cell 5; have f5 := B92.out.frozen 5; have h6 := B92.out.cell 6; have f6 := B92.out.frozen 6; have h7 := B92.out.cell 7; have f7 := B92.out.frozen 7; simp at h0 h1 h2 h3 h4 h5 h6 h7; have k0 := I2.out.b1.cell 0; have k1 := I2.out.b1.cell 1; have l0 := I2.out.b1.frozen 0; have l1 := I2.out.b1.frozen 1; simp at k0 k1; clear hky hg d0 d1 d2 d3 d4 e0 e1 CC)
        go_meet
        have WS2 := WS.out
        refine ⟨.slice py y.kids.length cy, (I2.out.fill (by omega) (Nat.le_succ _) (fun r e => Nat.ne_of_lt (Nat.lt_succ_of_lt (VB.out r e).2)) (grown8 w2 (wr.heap.size + 1) (.int .i64 y.kind) (.int .i64 y.ty) (.string y.txt) (.int .i64 y.num) (.slice none 0 0) (.string y.nm) (.int .i64 y.pl) (.slice py y.kids.length cy))).place i2, fun r e => (VB.out r e).2, ?_, ?_⟩
        · exact (blk8 B92.out _ _ _ _ _ _ _ _).kept (grown_set (grown_set (grown_refl _ (some (w.heap.size + 1))) 0 _) 1 _) (fun e => by injection e with e; omega)
        · refine (KY.out.keptP (Kp.of_grown (grown8 w2 (wr.heap.size + 1) (.int .i64 y.kind) (.int .i64 y.ty) (.string y.txt) (.int .i64 y.num) (.slice none 0 0) (.string y.nm) (.int .i64 y.pl) (.slice py y.kids.length cy)) (fun b hb e => ?_)) (Q := fun g => wr.heap.size + 2 ≤ g) (fun b hb _ => hb)).keptP (Kp.of_grown (grown_set (grown_set (grown_refl _ (some (w.heap.size + 1))) 0 _) 1 _) (fun b hb e => ?_)) (fun b hb _ => hb)
          · injection e with e
            have hb : wr.heap.size + 2 ≤ b := hb
            omega
          · injection e with e
            have hb : wr.heap.size + 2 ≤ b := hb
            omega
      case rest =>
        obtain ⟨qy, hI3, hv3, hB3, hky⟩ := hcut
        clear d0 d1 d2 d3 d4 e0 e1 CC B9 IA ne1 ne2
        obtain ⟨py, cy, rfl, _, _, _⟩ := hky.form
        obtain ⟨pv, cv, rfl, _, _⟩ := hI3.kq.form
        have B3 := hid hB3
        have h0 := B3.out.cell 0
        have h1 := B3.out.cell 1
        have h2 := B3.out.cell 2
        have h3 := B3.out.cell 3
        have h4 := B3.out.cell 4
        have h5 := B3.out.cell 5
        have h6 := B3.out.cell 6
        have h7 := B3.out.cell 7
        simp at h0 h1 h2 h3 h4 h5 h6 h7
        have WC : Hid (wr.heap.size + 1 < wc.heap.size) := hid hB3.lt
        have GR := grown_alloc (grown_refl wc none) (.cells #[.int .i64 y.kind, .int .i64 y.ty, .string y.txt, .int .i64 y.num, .slice none 0 0, .string y.nm, .int .i64 y.pl, .slice py y.kids.length cy] 121)
        have I3 := hid (hI3.mono (Nat.le_of_lt (Nat.lt_of_succ_lt WC.out)))
        have I4 := hid (I3.out.kept GR)
        have KY := hid ((hky.mono (Q := fun b => ((w.heap.size + 1 + 1 + 1 + 1 + 1 ≤ b ∧ b < wc.heap.size) ∧ some b ≠ (Value.slice pv ps.length cv).ownBlock)) (fun b hb hlt2 => ⟨⟨by have := WS.out; have hb : wr.heap.size + 2 ≤ b := hb; omega, hlt2⟩, fun e => by have := hv3 b e.symm; have hb : wr.heap.size + 2 ≤ b := hb; omega⟩)).kept GR)
        have HV := hid hv3
        have y7 := I4.out.b4.cell 7
        have z7 := I3.out.b4.cell 7
        simp at y7 z7
        clear hI3 hv3 hB3 hky GR
        have PL : Hid (ps.length < 100000) := hid (by have h1 := LN.out; have h2 := LT.out.1; have h3 := LT.out.2; omega)
        have BS : Hid (w.heap.size + 1 + 1 + 1 + 1 + 1 ≤ (wc.alloc (.cells #[.int .i64 y.kind, .int .i64 y.ty, .string y.txt, .int .i64 y.num, .slice none 0 0, .string y.nm, .int .i64 y.pl, .slice py y.kids.length cy] 121)).heap.size) := hid (by rw [World.size_alloc]; have h1 := WS.out; have h2 := WC.out; omega)
        have NX : Hid (placeL nm (ks.take (j + 1)) (wrap64 (i + 1)) = (ps ++ [y], i2)) := hid (by rw [TK.out, SN.out, HY.out])
        clear y7 z7
        have y7 := I3.out.b4.cell 7
        simp at y7
        go_wp2_with (at_builtin; refine append_pd 119 121 Tryz.underlying119 info121 _ _ rfl rfl (w.heap.size + 1 + 1 + 1 + 1 + 1) (.slice pv ps.length cv) ps y (.slice py y.kids.length cy) ⟨wc.heap.size, 0, none⟩ 1 I4.out.kq (PdC.new wc 121 y _) KY.out PL.out BS.out rfl rfl ?_; intro v5 w5 h5 g5; obtain ⟨p5, c5, rfl, _, _⟩ := h5.form; have O4 := hid (I4.out.at4 g5); have I6 := hid (I4.out.add g5 h5); have GS : Hid (wc.heap.size ≤ w5.heap.size) := hid (by have h := g5.size; rw [World.size_alloc] at h; omega); clear y7 h0 h1 h2 h3 h4 h5 h6 h7; have y7 := O4.out.cell 7; have z7 := O4.out.frozen 7; simp at y7)
        go_roundw
        case rel =>
          refine ⟨j + 1, .slice p5 (ps ++ [y]).length c5, LT.out.2, by go_num, ?_⟩
          rw [NX.out]
          have h := I6.out.mono (Nat.le_trans GS.out (grown_set (grown_refl w5 (some (w.heap.size + 1 + 1 + 1 + 1))) 7 (.slice p5 (ps ++ [y]).length c5)).size)
          simpa using h
        case measure => have := LT.out.2; simp [intOf]; omega
    · have j1 : ¬ (j : Int) < L := by omega
      have hjl : j = L := by omega
      subst hjl
      have TK : ks.take j = ks := List.take_of_length_le (by rw [HL.out]; exact Nat.le_refl _)
      rw [TK] at II
      obtain ⟨pv, cv, rfl, _, _⟩ := II.out.kq.form
      clear hI hj TK
      have n0 := II.out.b4.cell 0
      have n1 := II.out.b4.cell 1
      have n2 := II.out.b4.cell 2
      have n3 := II.out.b4.cell 3
      have n4 := II.out.b4.cell 4
      have n5 := II.out.b4.cell 5
      have n6 := II.out.b4.cell 6
      have n7 := II.out.b4.cell 7
      have r0 := II.out.b2.cell 0
      have q0 := II.out.b2.frozen 0
      have r1 := II.out.b2.cell 1
      have q1 := II.out.b2.frozen 1
      have r2 := II.out.b2.cell 2
      have q2 := II.out.b2.frozen 2
      have r3 := II.out.b2.cell 3
      have q3 := II.out.b2.frozen 3
      have r4 := II.out.b2.cell 4
      have q4 := II.out.b2.frozen 4
      have r5 := II.out.b2.cell 5
      have q5 := II.out.b2.frozen 5
      have r6 := II.out.b2.cell 6
      have q6 := II.out.b2.frozen 6
      have r7 := II.out.b2.cell 7
      have q7 := II.out.b2.frozen 7
      have s0 := II.out.b1.cell 0
      have s1 := II.out.b1.cell 1
      have u0 := II.out.b3.cell 0
      have x0 := II.out.b3.frozen 0
      have u1 := II.out.b3.cell 1
      have x1 := II.out.b3.frozen 1
      simp at n0 r0 n1 r1 n2 r2 n3 r3 n4 r4 n5 r5 n6 r6 n7 r7 s0 s1 u0 u1
      go_wp2_with fail
      go_region
      all_goals
        (try go_wp2_with fail)
        have GC := (grown8 wr (w.heap.size + 1 + 1) (.int .i64 k) (.int .i64 t) (.string s) (.int .i64 n) (.slice none 0 0) (.string nm) (.int .i64 i) (.slice pv (placeL nm ks (wrap64 (i + 1))).1.length cv))
        have G3 : World.grownBy ((((((((wr.setCell ⟨w.heap.size + 1 + 1, 0, none⟩ (.int .i64 k)).setCell ⟨w.heap.size + 1 + 1, 1, none⟩ (.int .i64 t)).setCell ⟨w.heap.size + 1 + 1, 2, none⟩ (.string s)).setCell ⟨w.heap.size + 1 + 1, 3, none⟩ (.int .i64 n)).setCell ⟨w.heap.size + 1 + 1, 4, none⟩ (.slice none 0 0)).setCell ⟨w.heap.size + 1 + 1, 5, none⟩ (.string nm)).setCell ⟨w.heap.size + 1 + 1, 6, none⟩ (.int .i64 i)).setCell ⟨w.heap.size + 1 + 1, 7, none⟩ (.slice pv (placeL nm ks (wrap64 (i + 1))).1.length cv)) ((((((((((wr.setCell ⟨w.heap.size + 1 + 1, 0, none⟩ (.int .i64 k)).setCell ⟨w.heap.size + 1 + 1, 1, none⟩ (.int .i64 t)).setCell ⟨w.heap.size + 1 + 1, 2, none⟩ (.string s)).setCell ⟨w.heap.size + 1 + 1, 3, none⟩ (.int .i64 n)).setCell ⟨w.heap.size + 1 + 1, 4, none⟩ (.slice none 0 0)).setCell ⟨w.heap.size + 1 + 1, 5, none⟩ (.string nm)).setCell ⟨w.heap.size + 1 + 1, 6, none⟩ (.int .i64 i)).setCell ⟨w.heap.size + 1 + 1, 7, none⟩ (.slice pv (placeL nm ks (wrap64 (i + 1))).1.length cv)).setCell ⟨w.heap.size + 1 + 1 + 1, 0, none⟩ (.string nm)).setCell ⟨w.heap.size + 1 + 1 + 1, 1, none⟩ (.int .i64 (placeL nm ks (wrap64 (i + 1))).2)) (some (w.heap.size + 1 + 1 + 1)) := grown_set (grown_set (grown_refl _ (some (w.heap.size + 1 + 1 + 1))) 0 _) 1 _
        have BB2 := ((blk8 II.out.b2 (.int .i64 k) (.int .i64 t) (.string s) (.int .i64 n) (.slice none 0 0) (.string nm) (.int .i64 i) (.slice pv (placeL nm ks (wrap64 (i + 1))).1.length cv)).kept G3 (fun e => by injection e with e; omega)).drew
        have BB3 : Blk ((((((((((wr.setCell ⟨w.heap.size + 1 + 1, 0, none⟩ (.int .i64 k)).setCell ⟨w.heap.size + 1 + 1, 1, none⟩ (.int .i64 t)).setCell ⟨w.heap.size + 1 + 1, 2, none⟩ (.string s)).setCell ⟨w.heap.size + 1 + 1, 3, none⟩ (.int .i64 n)).setCell ⟨w.heap.size + 1 + 1, 4, none⟩ (.slice none 0 0)).setCell ⟨w.heap.size + 1 + 1, 5, none⟩ (.string nm)).setCell ⟨w.heap.size + 1 + 1, 6, none⟩ (.int .i64 i)).setCell ⟨w.heap.size + 1 + 1, 7, none⟩ (.slice pv (placeL nm ks (wrap64 (i + 1))).1.length cv)).setCell ⟨w.heap.size + 1 + 1 + 1, 0, none⟩ (.string nm)).setCell ⟨w.heap.size + 1 + 1 + 1, 1, none⟩ (.int .i64 (placeL nm ks (wrap64 (i + 1))).2)) (w.heap.size + 1 + 1 + 1) 118 #[.string nm, .int .i64 (placeL nm ks (wrap64 (i + 1))).2] := by simpa using ((II.out.b3.kept GC (fun e => by injection e with e; omega)).set 0 (.string nm)).set 1 (.int .i64 (placeL nm ks (wrap64 (i + 1))).2)
        have A0 := BB2.cell 0
        have A1 := BB2.cell 1
        have A2 := BB2.cell 2
        have A3 := BB2.cell 3
        have A4 := BB2.cell 4
        have A5 := BB2.cell 5
        have A6 := BB2.cell 6
        have A7 := BB2.cell 7
        have D0 := BB3.drew.cell 0
        have D1 := BB3.drew.cell 1
        simp at A0 A1 A2 A3 A4 A5 A6 A7 D0 D1
        have g1 := grown_drew (grown_ob' (grown_ob' II.out.g GC (fun x e => by injection e with e; omega)) G3 (fun x e => by injection e with e; omega))
        have kk := ((II.out.kq.ks.keptP (Kp.of_grown GC (fun b hb e => by injection e with e; rcases hb with hb | hb <;> omega)) (fun b hb _ => hb)).keptP (Kp.of_grown G3 (fun b hb e => by injection e with e; rcases hb with hb | hb <;> omega)) (Q := fun g => w.heap.size ≤ g) (fun b hb _ => by rcases hb with hb | hb <;> omega)).kept (grown_drew (grown_refl _ none))
        refine bodyPost_ret (v := .tuple #[.agg #[.int .i64 k, .int .i64 t, .string s, .int .i64 n, .slice none 0 0, .string nm, .int .i64 i, .slice pv (placeL nm ks (wrap64 (i + 1))).1.length cv], .agg #[.string nm, .int .i64 (placeL nm ks (wrap64 (i + 1))).2]]) ?_ rfl ⟨_, rfl, ⟨_, rfl, kk⟩, g1⟩
        simp [results, Tryz.results147, go_sem, A0, A1, A2, A3, A4, A5, A6, A7, D0, D1]
theorem placed_from (P : Nat → Prop) (nm : ByteArray) : ∀ x : Nd, x.ok → ∀ (i : Int) (v : Value) (w : World), NdV w P v x → Calls Tryz.prog 147 #[v, .agg #[.string nm, .int .i64 i]] w (PlQ w nm i x) := by
  refine Nd.indA ?_
  intro k t s n ks ih hok i v w ⟨q, hv, hk⟩
  subst hv
  exact placed_go k t s n q ks P nm i w (Nat.le_trans hok.2.1 (by decide)) hk (fun y hy i v W hv => ih y hy (Nd.oks_mem hok.2.2 y hy) i v W hv)
end Ip
end Go.Proofs.YtajoncmmdeahnaaGreatDoor
namespace Go.Proofs.YtajoncmmdeahnaaGreatDoor
open Go.RowKit
namespace Ip
set_option maxRecDepth 100000 in
set_option maxHeartbeats 4000000 in
theorem placed_any (P : Nat → Prop) (k t : Int) (s : ByteArray) (n : Int) (ks : List Nd) (q : Value) (w : World) (hok : (Nd.mk k t s n ks).ok) (hk : KsV w P q ks) :
    Calls Tryz.prog 106 #[.agg #[.int .i64 k, .int .i64 t, .string s, .int .i64 n, q]] w fun e w' => ∃ py cy, (∀ y, (placeT s (.mk k t s n ks) 0).1 = y → e = .returned (.agg #[.int .i64 y.kind, .int .i64 y.ty, .string y.txt, .int .i64 y.num, .slice none 0 0, .string y.nm, .int .i64 y.pl, .slice py y.kids.length cy]) ∧ KsP w' (fun g => w.heap.size ≤ g) (.slice py y.kids.length cy) y.kids) ∧ w.grownBy w' none := by
  obtain ⟨p, c, rfl, _, _, _⟩ := hk.form
  have G1 := grown_alloc (grown_alloc (grown_refl w none) (.cells #[.int .i64 k, .int .i64 t, .string s, .int .i64 n, .slice p ks.length c] 27)) (.cells #[.int .i64 0, .int .i64 0, .string ⟨#[]⟩, .int .i64 0, .slice none 0 0, .string ⟨#[]⟩, .int .i64 0, .slice none 0 0] 121)
  have B2 := hid (by simpa using Blk.new (w.alloc (.cells #[.int .i64 k, .int .i64 t, .string s, .int .i64 n, .slice p ks.length c] 27)) 121 #[.int .i64 0, .int .i64 0, .string ⟨#[]⟩, .int .i64 0, .slice none 0 0, .string ⟨#[]⟩, .int .i64 0, .slice none 0 0] : Blk ((w.alloc (.cells #[.int .i64 k, .int .i64 t, .string s, .int .i64 n, .slice p ks.length c] 27)).alloc (.cells #[.int .i64 0, .int .i64 0, .string ⟨#[]⟩, .int .i64 0, .slice none 0 0, .string ⟨#[]⟩, .int .i64 0, .slice none 0 0] 121)) (w.heap.size + 1) 121 #[.int .i64 0, .int .i64 0, .string ⟨#[]⟩, .int .i64 0, .slice none 0 0, .string ⟨#[]⟩, .int .i64 0, .slice none 0 0])
  obtain ⟨y, i2, hy⟩ : ∃ y i2, placeT s (.mk k t s n ks) 0 = (y, i2) := ⟨_, _, rfl⟩
  have CC : Hid (Calls Tryz.prog 147 #[.agg #[.int .i64 k, .int .i64 t, .string s, .int .i64 n, .slice p ks.length c], .agg #[.string s, .int .i64 0]] ((w.alloc (.cells #[.int .i64 k, .int .i64 t, .string s, .int .i64 n, .slice p ks.length c] 27)).alloc (.cells #[.int .i64 0, .int .i64 0, .string ⟨#[]⟩, .int .i64 0, .slice none 0 0, .string ⟨#[]⟩, .int .i64 0, .slice none 0 0] 121)) fun e w' => ∃ py cy, e = .returned (.tuple #[.agg #[.int .i64 y.kind, .int .i64 y.ty, .string y.txt, .int .i64 y.num, .slice none 0 0, .string y.nm, .int .i64 y.pl, .slice py y.kids.length cy], .agg #[.string s, .int .i64 i2]]) ∧ KsP w' (fun g => w.heap.size + 2 ≤ g) (.slice py y.kids.length cy) y.kids ∧ ((w.alloc (.cells #[.int .i64 k, .int .i64 t, .string s, .int .i64 n, .slice p ks.length c] 27)).alloc (.cells #[.int .i64 0, .int .i64 0, .string ⟨#[]⟩, .int .i64 0, .slice none 0 0, .string ⟨#[]⟩, .int .i64 0, .slice none 0 0] 121)).grownBy w' none) := hid ((placed_from P s (.mk k t s n ks) hok 0 _ _ ⟨_, rfl, hk.kept G1⟩).mono (by
    rintro e w2 ⟨vv, rfl, ⟨qy, rfl, hky⟩, hg⟩
    rw [hy] at hky ⊢
    obtain ⟨py, cy, rfl, _, _, _⟩ := hky.form
    refine ⟨py, cy, rfl, hky.mono (fun b hb _ => ?_), hg⟩
    rw [World.size_alloc, World.size_alloc] at hb
    exact hb))
  rw [hy]
  clear hok hk hy
  have GG := hid G1
  clear G1
  go_enter Tryz.func106, Tryz.ntmps106
  go_wp2_with (go_at_call 147; refine CC.out.mono ?_; rintro e w2 ⟨py, cy, rfl, hky, hg⟩; have KY := hid hky; have G2 := hid hg; have B3 := hid (B2.out.kept hg (by simp)); have B4 := hid ((B3.out.alloc (.cells #[.int .i64 y.kind, .int .i64 y.ty, .string y.txt, .int .i64 y.num, .slice none 0 0, .string y.nm, .int .i64 y.pl, .slice py y.kids.length cy] 121)).alloc (.cells #[.string s, .int .i64 i2] 118)); clear hky hg CC; have A0 := B4.out.cell 0; have F0 := B4.out.frozen 0; have A1 := B4.out.cell 1; have F1 := B4.out.frozen 1; have A2 := B4.out.cell 2; have F2 := B4.out.frozen 2; have A3 := B4.out.cell 3; have F3 := B4.out.frozen 3; have A4 := B4.out.cell 4; have F4 := B4.out.frozen 4; have A5 := B4.out.cell 5; have F5 := B4.out.frozen 5; have A6 := B4.out.cell 6; have F6 := B4.out.frozen 6; have A7 := B4.out.cell 7; have F7 := B4.out.frozen 7)
  have BB := blk8 B4.out (.int .i64 y.kind) (.int .i64 y.ty) (.string y.txt) (.int .i64 y.num) (.slice none 0 0) (.string y.nm) (.int .i64 y.pl) (.slice py y.kids.length cy)
  have E0 := BB.cell 0
  have E1 := BB.cell 1
  have E2 := BB.cell 2
  have E3 := BB.cell 3
  have E4 := BB.cell 4
  have E5 := BB.cell 5
  have E6 := BB.cell 6
  have E7 := BB.cell 7
  simp at E0 E1 E2 E3 E4 E5 E6 E7
  have GC := grown8 ((w2.alloc (.cells #[.int .i64 y.kind, .int .i64 y.ty, .string y.txt, .int .i64 y.num, .slice none 0 0, .string y.nm, .int .i64 y.pl, .slice py y.kids.length cy] 121)).alloc (.cells #[.string s, .int .i64 i2] 118)) (w.heap.size + 1) (.int .i64 y.kind) (.int .i64 y.ty) (.string y.txt) (.int .i64 y.num) (.slice none 0 0) (.string y.nm) (.int .i64 y.pl) (.slice py y.kids.length cy)
  have g2 := grown_alloc (grown_alloc (grown_none GG.out G2.out) (.cells #[.int .i64 y.kind, .int .i64 y.ty, .string y.txt, .int .i64 y.num, .slice none 0 0, .string y.nm, .int .i64 y.pl, .slice py y.kids.length cy] 121)) (.cells #[.string s, .int .i64 i2] 118)
  have kk := (KY.out.kept (grown_alloc (grown_alloc (grown_refl w2 none) (.cells #[.int .i64 y.kind, .int .i64 y.ty, .string y.txt, .int .i64 y.num, .slice none 0 0, .string y.nm, .int .i64 y.pl, .slice py y.kids.length cy] 121)) (.cells #[.string s, .int .i64 i2] 118))).keptP (Kp.of_grown GC (fun b hb e => by injection e with e; have hb : w.heap.size + 2 ≤ b := hb; omega)) (Q := fun g => w.heap.size ≤ g) (fun b hb _ => by have hb : w.heap.size + 2 ≤ b := hb; show w.heap.size ≤ b; omega)
  refine bodyPost_ret (v := .agg #[.int .i64 y.kind, .int .i64 y.ty, .string y.txt, .int .i64 y.num, .slice none 0 0, .string y.nm, .int .i64 y.pl, .slice py y.kids.length cy]) ?_ rfl ⟨py, cy, fun y' e => ?_, grown_ob' g2 GC (fun x e => by injection e with e; omega)⟩
  · simp [results, Tryz.results106, go_sem, E0, E1, E2, E3, E4, E5, E6, E7]
  · obtain rfl : y = y' := e
    exact ⟨rfl, kk⟩
end Ip
end Go.Proofs.YtajoncmmdeahnaaGreatDoor
