/-
  The interpreter: the body of a function, or of a test. The interpreter: the body of a function, or of a test: its walk.
-/
import Derived.Test.YtajoncmmdeahnaaGreatDoorKIv
import Derived.Test.YtajoncmmdeahnaaGreatDoorKCl3
namespace Go.Proofs.YtajoncmmdeahnaaGreatDoor
open Go.RowKit
namespace Ip
theorem info9s : (Tryz.prog.info? 9).map (fun i => (i.zero, i.size, i.bytes)) = some (some (.string ⟨#[]⟩), 1, 16) := by kernel_rfl
section
variable {ops : Array Oper} {rest : List Oper} {o : Oper} {a : Act} {Q : Exit → Act → World → Prop} {w : World}
theorem append_s9 (base : Nat) (v : Value) (l : List Value) (t : ByteArray) (ad : Addr) (cc : Nat) (hrow : w.ownsRow base 9 1 v l.length l) (hcell : w.cell? ad = some (.string t)) (hl : l.length ≤ 1000000) (hbase : base ≤ w.heap.size) (s x : Operand)
    (hgd : o.guard = none) (ho : o.op = .call { callee := .builtin .append, args := #[s, x], argTypes := #[23, 23] }) (hs : a.eval s = v) (hx : a.eval x = .slice (some ad) 1 cc)
    (h : ∀ v' w', w'.ownsRow base 9 1 v' (l.length + 1) (l ++ [.string t]) → w.grownBy w' v.ownBlock → wpList Tryz.prog ops Q rest (a.put o.dst v') w') : wpList Tryz.prog ops Q (o :: rest) a w := by
  obtain ⟨i3, hi, hz0, hz1, hz2⟩ := info_parts info9s
  refine wpList_append_own w hgd s x 23 ho base 9 i3 _ 1 16 Tryz.underlying23 hi hz0 hz1 hz2 rfl (by decide) v l.length l hs hrow ad 1 cc [.string t] hx rfl (fun j u hj => ?_) (fun u hu => ?_) (by unfold maxLen; omega) (by omega) hbase ?_
  · rcases j with _ | j
    · have e : Value.string t = u := Option.some.inj hj
      have e2 : ad.add 0 = ad := rfl
      rw [e2, ← e]
      exact hcell
    · exact absurd hj (by simp)
  · rw [List.mem_singleton] at hu
    rw [hu]; rfl
  · intro v' w' h2 h3 _
    exact h v' w' h2 h3
end
theorem bodyL_par (x : Pd) (r : List Pd) (ps : List ByteArray) (b : Pd) (h : x.kind = 5) : bodyL (x :: r) ps b = bodyL r (ps ++ [x.txt]) b := by
  rw [bodyL, if_pos h]
theorem bodyL_blk (x : Pd) (r : List Pd) (ps : List ByteArray) (b : Pd) (h : x.kind ≠ 5) : bodyL (x :: r) ps b = bodyL r ps x := by
  rw [bodyL, if_neg h]
structure BoI (w : World) (m : Nat) (p : Option Addr) (c : Nat) (kl : List Pd) (ps : List ByteArray) (b : Pd) (v qb : Value) (wr : World) : Prop where
  g : w.grownBy wr none
  mm : m ≤ wr.heap.size
  m3 : w.heap.size + 3 ≤ m
  b1 : Blk wr (w.heap.size + 1) 123 #[.slice none 0 0, .int .i64 0, .int .i64 0, .string ⟨#[]⟩, .int .i64 0, .slice none 0 0, .string ⟨#[]⟩, .int .i64 0, .slice none 0 0]
  b2 : Blk wr (w.heap.size + 1 + 1) 123 #[v, .int .i64 b.kind, .int .i64 b.ty, .string b.txt, .int .i64 b.num, .slice none 0 0, .string b.nm, .int .i64 b.pl, qb]
  row : wr.ownsRow m 9 1 v ps.length (ps.map Value.string)
  ks : KsP wr (fun g => w.heap.size + 3 ≤ g ∧ g < m) (.slice p kl.length c) kl
  kb : KsP wr (fun g => w.heap.size + 3 ≤ g ∧ g < m) qb b.kids
section
variable {w wr w' : World} {m : Nat} {p : Option Addr} {c : Nat} {kl : List Pd} {ps : List ByteArray} {b : Pd} {v qb : Value}
theorem BoI.kept (h : BoI w m p c kl ps b v qb wr) (hg : wr.grownBy w' none) : BoI w m p c kl ps b v qb w' :=
  ⟨grown_none h.g hg, Nat.le_trans h.mm hg.size, h.m3, h.b1.kept hg (by simp), h.b2.kept hg (by simp), Lw.row_none h.row hg, h.ks.kept hg, h.kb.kept hg⟩
theorem BoI.block (h : BoI w m p c kl ps b v qb wr) (x : Pd) (q : Value) (hx : KsP wr (fun g => w.heap.size + 3 ≤ g ∧ g < m) q x.kids) (G : wr.grownBy w' (some (w.heap.size + 1 + 1))) (hB : Blk w' (w.heap.size + 1 + 1) 123 #[v, .int .i64 x.kind, .int .i64 x.ty, .string x.txt, .int .i64 x.num, .slice none 0 0, .string x.nm, .int .i64 x.pl, q]) : BoI w m p c kl ps x v q w' := by
  have K : Kp wr w' (fun g => w.heap.size + 3 ≤ g ∧ g < m) := Kp.of_grown G (fun b hb e => by injection e with e; have hb := hb.1; omega)
  exact ⟨grown_ob' h.g G (fun x e => by injection e with e; omega), Nat.le_trans h.mm G.size, h.m3, h.b1.kept G (fun e => by injection e with e; omega), hB, Ck.own_kept h.row G h.b2 (by decide), h.ks.keptP K (fun _ hh _ => hh), hx.keptP K (fun _ hh _ => hh)⟩
theorem BoI.par (h : BoI w m p c kl ps b v qb wr) (hg : wr.grownBy w' v.ownBlock) {v' : Value} {ps' : List ByteArray} (hr : w'.ownsRow m 9 1 v' ps'.length (ps'.map Value.string)) : BoI w m p c kl ps' b v' qb (w'.setCell ⟨w.heap.size + 1 + 1, 0, none⟩ v') := by
  have m3 := h.m3
  have hl : ∀ r, v.ownBlock = some r → m ≤ r := fun r e => (h.row.lt r e).1
  have g1 : w.grownBy w' none := grown_ob' h.g hg (fun x e => by have := hl x e; omega)
  have G := grown_set (grown_refl w' (some (w.heap.size + 1 + 1))) 0 v'
  have K1 : Kp wr w' (fun g => w.heap.size + 3 ≤ g ∧ g < m) := fun b hb hlt => hg.block b hlt (fun e => by have := hl b e.symm; have hb := hb.2; omega)
  have K2 : Kp w' (w'.setCell ⟨w.heap.size + 1 + 1, 0, none⟩ v') (fun g => w.heap.size + 3 ≤ g ∧ g < m) := Kp.of_grown G (fun b hb e => by injection e with e; have hb := hb.1; omega)
  have B2 := h.b2.kept hg (fun e => by have := hl _ e.symm; omega)
  refine ⟨grown_ob' g1 G (fun x e => by injection e with e; omega), Nat.le_trans h.mm (Nat.le_trans hg.size G.size), m3, (h.b1.kept hg (fun e => by have := hl _ e.symm; omega)).kept G (fun e => by injection e with e; omega), ?_, Ck.own_kept hr G B2 (by decide), (h.ks.keptP K1 (fun _ hh _ => hh)).keptP K2 (fun _ hh _ => hh), (h.kb.keptP K1 (fun _ hh _ => hh)).keptP K2 (fun _ hh _ => hh)⟩
  simpa using B2.set 0 v'
theorem BoI.at2 (h : BoI w m p c kl ps b v qb wr) (hg : wr.grownBy w' v.ownBlock) : Blk w' (w.heap.size + 1 + 1) 123 #[v, .int .i64 b.kind, .int .i64 b.ty, .string b.txt, .int .i64 b.num, .slice none 0 0, .string b.nm, .int .i64 b.pl, qb] := h.b2.kept hg (fun e => by have := (h.row.lt _ e.symm).1; have := h.m3; omega)
end
end Ip
end Go.Proofs.YtajoncmmdeahnaaGreatDoor
namespace Go.Proofs.YtajoncmmdeahnaaGreatDoor
open Go.RowKit
namespace Ip
def BodQ (w : World) (r : List ByteArray × Pd) (e : Ending) (w' : World) : Prop := ∃ pa cap qb, e = .returned (.agg #[.slice pa r.1.length cap, .int .i64 r.2.kind, .int .i64 r.2.ty, .string r.2.txt, .int .i64 r.2.num, .slice none 0 0, .string r.2.nm, .int .i64 r.2.pl, qb]) ∧ r.1.length ≤ cap ∧ cap ≤ maxLen ∧ w'.ownsRow (w.heap.size + 3) 9 1 (.slice pa r.1.length cap) r.1.length (r.1.map Value.string) ∧ KsP w' (fun g => w.heap.size + 3 ≤ g) qb r.2.kids ∧ w.grownBy w' none
set_option maxRecDepth 100000 in
set_option maxHeartbeats 8000000 in
theorem bodyOf_any (P : Nat → Prop) (k t : Int) (s : ByteArray) (n : Int) (ks : List Nd) (q : Value) (w : World) (hok : (Nd.mk k t s n ks).ok) (hk : KsV w P q ks) :
    Calls Tryz.prog 59 #[.agg #[.int .i64 k, .int .i64 t, .string s, .int .i64 n, q]] w (BodQ w (bodyM (.mk k t s n ks))) := by
  obtain ⟨p0, c0, rfl, _, _, _⟩ := hk.form
  have G1 := grown_alloc (grown_alloc (grown_alloc (grown_refl w none) (.cells #[.int .i64 k, .int .i64 t, .string s, .int .i64 n, .slice p0 ks.length c0] 27)) (.cells #[.slice none 0 0, .int .i64 0, .int .i64 0, .string ⟨#[]⟩, .int .i64 0, .slice none 0 0, .string ⟨#[]⟩, .int .i64 0, .slice none 0 0] 123)) (.cells #[.slice none 0 0, .int .i64 0, .int .i64 0, .string ⟨#[]⟩, .int .i64 0, .slice none 0 0, .string ⟨#[]⟩, .int .i64 0, .slice none 0 0] 123)
  obtain ⟨y, hy⟩ : ∃ y, (placeT s (.mk k t s n ks) 0).1 = y := ⟨_, rfl⟩
  have HB : Hid (bodyM (.mk k t s n ks) = bodyL y.kids [] Pd.zero) := hid (by unfold bodyM; rw [← hy]; rfl)
  rw [HB.out]
  have LN : Hid (y.kids.length ≤ 255) := hid (by rw [← hy, placeT_mk]; show (placeL s ks _).1.length ≤ 255; rw [placeL_len]; exact hok.2.1)
  have CC : Hid (Calls Tryz.prog 106 #[.agg #[.int .i64 k, .int .i64 t, .string s, .int .i64 n, .slice p0 ks.length c0]] (((w.alloc (.cells #[.int .i64 k, .int .i64 t, .string s, .int .i64 n, .slice p0 ks.length c0] 27)).alloc (.cells #[.slice none 0 0, .int .i64 0, .int .i64 0, .string ⟨#[]⟩, .int .i64 0, .slice none 0 0, .string ⟨#[]⟩, .int .i64 0, .slice none 0 0] 123)).alloc (.cells #[.slice none 0 0, .int .i64 0, .int .i64 0, .string ⟨#[]⟩, .int .i64 0, .slice none 0 0, .string ⟨#[]⟩, .int .i64 0, .slice none 0 0] 123)) fun e w' => ∃ py cy, e = .returned (.agg #[.int .i64 y.kind, .int .i64 y.ty, .string y.txt, .int .i64 y.num, .slice none 0 0, .string y.nm, .int .i64 y.pl, .slice py y.kids.length cy]) ∧ KsP w' (fun g => w.heap.size + 3 ≤ g) (.slice py y.kids.length cy) y.kids ∧ World.grownBy (((w.alloc (.cells #[.int .i64 k, .int .i64 t, .string s, .int .i64 n, .slice p0 ks.length c0] 27)).alloc (.cells #[.slice none 0 0, .int .i64 0, .int .i64 0, .string ⟨#[]⟩, .int .i64 0, .slice none 0 0, .string ⟨#[]⟩, .int .i64 0, .slice none 0 0] 123)).alloc (.cells #[.slice none 0 0, .int .i64 0, .int .i64 0, .string ⟨#[]⟩, .int .i64 0, .slice none 0 0, .string ⟨#[]⟩, .int .i64 0, .slice none 0 0] 123)) w' none) := hid ((placed_any P k t s n ks _ _ hok (hk.kept G1)).mono (by
    rintro e w2 ⟨py, cy, h, hg⟩
    obtain ⟨h1, h2⟩ := h y hy
    refine ⟨py, cy, h1, h2.mono (fun b hb _ => ?_), hg⟩
    rw [World.size_alloc, World.size_alloc, World.size_alloc] at hb
    exact hb))
  have B1 : Hid (Blk (((w.alloc (.cells #[.int .i64 k, .int .i64 t, .string s, .int .i64 n, .slice p0 ks.length c0] 27)).alloc (.cells #[.slice none 0 0, .int .i64 0, .int .i64 0, .string ⟨#[]⟩, .int .i64 0, .slice none 0 0, .string ⟨#[]⟩, .int .i64 0, .slice none 0 0] 123)).alloc (.cells #[.slice none 0 0, .int .i64 0, .int .i64 0, .string ⟨#[]⟩, .int .i64 0, .slice none 0 0, .string ⟨#[]⟩, .int .i64 0, .slice none 0 0] 123)) (w.heap.size + 1) 123 #[.slice none 0 0, .int .i64 0, .int .i64 0, .string ⟨#[]⟩, .int .i64 0, .slice none 0 0, .string ⟨#[]⟩, .int .i64 0, .slice none 0 0]) := hid (by simpa using (Blk.new (w.alloc (.cells #[.int .i64 k, .int .i64 t, .string s, .int .i64 n, .slice p0 ks.length c0] 27)) 123 #[.slice none 0 0, .int .i64 0, .int .i64 0, .string ⟨#[]⟩, .int .i64 0, .slice none 0 0, .string ⟨#[]⟩, .int .i64 0, .slice none 0 0]).alloc (.cells #[.slice none 0 0, .int .i64 0, .int .i64 0, .string ⟨#[]⟩, .int .i64 0, .slice none 0 0, .string ⟨#[]⟩, .int .i64 0, .slice none 0 0] 123))
  have B2 : Hid (Blk (((w.alloc (.cells #[.int .i64 k, .int .i64 t, .string s, .int .i64 n, .slice p0 ks.length c0] 27)).alloc (.cells #[.slice none 0 0, .int .i64 0, .int .i64 0, .string ⟨#[]⟩, .int .i64 0, .slice none 0 0, .string ⟨#[]⟩, .int .i64 0, .slice none 0 0] 123)).alloc (.cells #[.slice none 0 0, .int .i64 0, .int .i64 0, .string ⟨#[]⟩, .int .i64 0, .slice none 0 0, .string ⟨#[]⟩, .int .i64 0, .slice none 0 0] 123)) (w.heap.size + 1 + 1) 123 #[.slice none 0 0, .int .i64 0, .int .i64 0, .string ⟨#[]⟩, .int .i64 0, .slice none 0 0, .string ⟨#[]⟩, .int .i64 0, .slice none 0 0]) := hid (by simpa using Blk.new ((w.alloc (.cells #[.int .i64 k, .int .i64 t, .string s, .int .i64 n, .slice p0 ks.length c0] 27)).alloc (.cells #[.slice none 0 0, .int .i64 0, .int .i64 0, .string ⟨#[]⟩, .int .i64 0, .slice none 0 0, .string ⟨#[]⟩, .int .i64 0, .slice none 0 0] 123)) 123 #[.slice none 0 0, .int .i64 0, .int .i64 0, .string ⟨#[]⟩, .int .i64 0, .slice none 0 0, .string ⟨#[]⟩, .int .i64 0, .slice none 0 0])
  have FD : ∀ (y : Pd) (py : Option Addr) (cy : Nat) (W : World), (Instr.field 121 (.agg #[.int .i64 y.kind, .int .i64 y.ty, .string y.txt, .int .i64 y.num, .slice none 0 0, .string y.nm, .int .i64 y.pl, .slice py y.kids.length cy]) 2).run Tryz.prog W = .ok (.slice py y.kids.length cy) W := fun y py cy W => by kernel_rfl
  have GG := hid G1
  clear hok hk hy G1
  unfold BodQ
  go_enter Tryz.func59, Tryz.ntmps59
  go_wp2_with (go_at_call 106; refine CC.out.mono ?_; rintro e w2 ⟨py, cy, rfl, hky, hg⟩; have KY := hid hky; have G2 := hid (grown_none GG.out hg); have C1 := hid (B1.out.kept hg (by simp)); have C2 := hid (B2.out.kept hg (by simp)); have G3 := hid hg; clear hky hg CC)
  obtain ⟨L, hL⟩ : ∃ L, y.kids.length = L := ⟨_, rfl⟩
  have HL := hid hL
  have ln := LN.out
  rw [hL] at ln
  rw [hL]
  clear hL
  have M3 : Hid (w.heap.size + 3 ≤ w2.heap.size) := hid (by have h := C2.out.lt; omega)
  have I0 : Hid (BoI w w2.heap.size py cy y.kids [] Pd.zero (.slice none 0 0) (.slice none 0 0) w2) := hid ⟨G2.out, Nat.le_refl _, M3.out, C1.out, C2.out, World.ownsRow_nil _ _ _ _, KY.out.mono (fun b hb hlt => ⟨hb, hlt⟩), KsP.nil _ _⟩
  clear FD
  go_loopw [10] (fun i wr => ∃ (j : Nat) (ps : List ByteArray) (b : Pd) (v qb : Value), j ≤ L ∧ ps.length ≤ j ∧ i = .int .i64 j ∧ BoI w w2.heap.size py cy y.kids ps b v qb wr ∧ bodyL y.kids [] Pd.zero = bodyL (y.kids.drop j) ps b) (fun i _ => L - (intOf i).toNat)
  case atStart => exact ⟨0, [], _, _, _, Nat.zero_le _, Nat.zero_le _, rfl, I0.out, rfl⟩
  case round =>
    obtain ⟨j, ps, b, v, qb, hj, hpj, rfl, hI, hE⟩ := hrel
    have j0 : (0 : Int) ≤ j := by omega
    have hln := HL.out
    by_cases hlt : j < L
    · have j1 : (j : Int) < L := by omega
      have jm : (L : Int) ≤ 255 := by omega
      have hjk : j < y.kids.length := by omega
      obtain ⟨g, rfl, _, hat⟩ := hI.ks.at j hjk
      rw [List.drop_eq_getElem_cons hjk] at hE
      obtain ⟨qx, a0, a1, a2, a3, a4, a5, a6, a7, hkx⟩ := hat.cells
      rw [Nat.mul_comm 8 j] at a0 a1 a2 a3 a4 a5 a6 a7
      generalize y.kids[j] = x at *
      obtain ⟨px, cx, rfl, _, _, _⟩ := hkx.form
      have HE := hid hE
      have HJ := hid (And.intro hlt hpj)
      have GA := grown_alloc (grown_refl wr none) (.cells #[.int .i64 x.kind, .int .i64 x.ty, .string x.txt, .int .i64 x.num, .slice none 0 0, .string x.nm, .int .i64 x.pl, .slice px x.kids.length cx] 121)
      have IA := hid (hI.kept GA)
      have KX := hid (hkx.kept GA)
      have BX := hid (Blk.new wr 121 #[.int .i64 x.kind, .int .i64 x.ty, .string x.txt, .int .i64 x.num, .slice none 0 0, .string x.nm, .int .i64 x.pl, .slice px x.kids.length cx])
      have x0 := BX.out.cell 0
      simp at x0
      have NE : Hid (w.heap.size + 1 + 1 < wr.heap.size) := hid hI.b2.lt
      clear hE hat hkx hI GA hln hjk hj hpj
      by_cases hk5 : x.kind = 5
      · have e5 : (x.kind == 5) = true := by rw [beq_iff_eq]; exact hk5
        have HK5 := hid hk5
        clear hk5
        obtain ⟨pv, cv, rfl, _⟩ := Lw.row_form IA.out.row
        have GB := grown_alloc (grown_refl (wr.alloc (.cells #[.int .i64 x.kind, .int .i64 x.ty, .string x.txt, .int .i64 x.num, .slice none 0 0, .string x.nm, .int .i64 x.pl, .slice px x.kids.length cx] 121)) none) (.cells #[.string x.txt] 9)
        have IB := hid (IA.out.kept GB)
        have RW := hid IB.out.row
        have x2 := BX.out.cell 2
        have n0 := IA.out.b2.cell 0
        simp at x2 n0
        have CL : Hid (((wr.alloc (.cells #[.int .i64 x.kind, .int .i64 x.ty, .string x.txt, .int .i64 x.num, .slice none 0 0, .string x.nm, .int .i64 x.pl, .slice px x.kids.length cx] 121)).alloc (.cells #[.string x.txt] 9)).cell? ⟨wr.heap.size + 1, 0, none⟩ = some (.string x.txt)) := hid (by have h := (Blk.new (wr.alloc (.cells #[.int .i64 x.kind, .int .i64 x.ty, .string x.txt, .int .i64 x.num, .slice none 0 0, .string x.nm, .int .i64 x.pl, .slice px x.kids.length cx] 121)) 9 #[.string x.txt]).cell 0; rw [World.size_alloc] at h; exact h)
        have SZ : Hid (ps.length ≤ 1000) := hid (by have := HJ.out; omega)
        have SM : Hid (w2.heap.size ≤ ((wr.alloc (.cells #[.int .i64 x.kind, .int .i64 x.ty, .string x.txt, .int .i64 x.num, .slice none 0 0, .string x.nm, .int .i64 x.pl, .slice px x.kids.length cx] 121)).alloc (.cells #[.string x.txt] 9)).heap.size) := hid IB.out.mm
        go_wp2_with (at_builtin; refine append_s9 w2.heap.size _ (ps.map Value.string) x.txt ⟨wr.heap.size + 1, 0, none⟩ 1 (by rw [List.length_map]; exact RW.out) CL.out (by rw [List.length_map]; have := SZ.out; omega) SM.out _ _ rfl rfl rfl rfl ?_; intro v3 w3 hr hg3; rw [List.length_map] at hr; have hr2 : w3.ownsRow w2.heap.size 9 1 v3 (ps ++ [x.txt]).length ((ps ++ [x.txt]).map Value.string) := (by simpa using hr); obtain ⟨p3, k3, rfl, _⟩ := Lw.row_form hr2; have I3 := hid (IB.out.par hg3 hr2); have O2 := hid (IB.out.at2 hg3); clear n0 x0 x2 hr hg3 hr2; have n0 := O2.out.cell 0; have f0 := O2.out.frozen 0; simp at n0)
        go_roundw
        case rel =>
          refine ⟨j + 1, ps ++ [x.txt], b, .slice p3 (ps ++ [x.txt]).length k3, qb, HJ.out.1, by rw [List.length_append]; have := HJ.out.2; simp; omega, by go_num, ?_, ?_⟩
          · have h := I3.out
            simpa using h
          · rw [HE.out, bodyL_par _ _ _ _ HK5.out]
        case measure => have := HJ.out.1; simp [intOf]; omega
      · have e5 : (x.kind == 5) = false := by rw [beq_eq_false_iff_ne]; exact hk5
        have HK5 := hid hk5
        clear hk5 x0
        have x0 := BX.out.cell 0
        have x1 := BX.out.cell 1
        have x2 := BX.out.cell 2
        have x3 := BX.out.cell 3
        have x4 := BX.out.cell 4
        have x5 := BX.out.cell 5
        have x6 := BX.out.cell 6
        have x7 := BX.out.cell 7
        have n1 := IA.out.b2.cell 1
        have f1 := IA.out.b2.frozen 1
        have n2 := IA.out.b2.cell 2
        have f2 := IA.out.b2.frozen 2
        have n3 := IA.out.b2.cell 3
        have f3 := IA.out.b2.frozen 3
        have n4 := IA.out.b2.cell 4
        have f4 := IA.out.b2.frozen 4
        have n5 := IA.out.b2.cell 5
        have f5 := IA.out.b2.frozen 5
        have n6 := IA.out.b2.cell 6
        have f6 := IA.out.b2.frozen 6
        have n7 := IA.out.b2.cell 7
        have f7 := IA.out.b2.frozen 7
        have n8 := IA.out.b2.cell 8
        have f8 := IA.out.b2.frozen 8
        simp at x0 x1 x2 x3 x4 x5 x6 x7 n1 n2 n3 n4 n5 n6 n7 n8
        have ne1 : w.heap.size + 1 + 1 ≠ wr.heap.size := Nat.ne_of_lt NE.out
        have I3 : Hid (BoI w w2.heap.size (some ⟨g, 0, none⟩) cy y.kids ps x v (.slice px x.kids.length cx) (((((((((wr.alloc (.cells #[.int .i64 x.kind, .int .i64 x.ty, .string x.txt, .int .i64 x.num, .slice none 0 0, .string x.nm, .int .i64 x.pl, .slice px x.kids.length cx] 121)).setCell ⟨w.heap.size + 1 + 1, 1, none⟩ (.int .i64 x.kind)).setCell ⟨w.heap.size + 1 + 1, 2, none⟩ (.int .i64 x.ty)).setCell ⟨w.heap.size + 1 + 1, 3, none⟩ (.string x.txt)).setCell ⟨w.heap.size + 1 + 1, 4, none⟩ (.int .i64 x.num)).setCell ⟨w.heap.size + 1 + 1, 5, none⟩ (.slice none 0 0)).setCell ⟨w.heap.size + 1 + 1, 6, none⟩ (.string x.nm)).setCell ⟨w.heap.size + 1 + 1, 7, none⟩ (.int .i64 x.pl)).setCell ⟨w.heap.size + 1 + 1, 8, none⟩ (.slice px x.kids.length cx))) := hid (IA.out.block x (.slice px x.kids.length cx) KX.out (grown_set (grown_set (grown_set (grown_set (grown_set (grown_set (grown_set (grown_set (grown_refl _ (some (w.heap.size + 1 + 1))) 1 (.int .i64 x.kind)) 2 (.int .i64 x.ty)) 3 (.string x.txt)) 4 (.int .i64 x.num)) 5 (.slice none 0 0)) 6 (.string x.nm)) 7 (.int .i64 x.pl)) 8 (.slice px x.kids.length cx)) (by simpa using ((((((((IA.out.b2).set 1 (.int .i64 x.kind)).set 2 (.int .i64 x.ty)).set 3 (.string x.txt)).set 4 (.int .i64 x.num)).set 5 (.slice none 0 0)).set 6 (.string x.nm)).set 7 (.int .i64 x.pl)).set 8 (.slice px x.kids.length cx)))
        go_wp2
        go_roundw
        case rel => exact ⟨j + 1, ps, x, v, .slice px x.kids.length cx, HJ.out.1, Nat.le_succ_of_le HJ.out.2, by go_num, I3.out, by rw [HE.out, bodyL_blk _ _ _ _ HK5.out]⟩
        case measure => have := HJ.out.1; simp [intOf]; omega
    · have j1 : ¬ (j : Int) < L := by omega
      rw [List.drop_eq_nil_of_le (by omega), bodyL] at hE
      have HE := hid hE
      have II := hid hI
      obtain ⟨pv, cv, rfl, hcv1, hcv2, _⟩ := Lw.row_form hI.row
      obtain ⟨pb, cb, rfl, _, _, _⟩ := hI.kb.form
      have HC := hid (And.intro hcv1 hcv2)
      clear hE hI hj hpj hln hcv1 hcv2
      have n0 := II.out.b2.cell 0
      have r0 := II.out.b1.cell 0
      have f0 := II.out.b1.frozen 0
      have n1 := II.out.b2.cell 1
      have r1 := II.out.b1.cell 1
      have f1 := II.out.b1.frozen 1
      have n2 := II.out.b2.cell 2
      have r2 := II.out.b1.cell 2
      have f2 := II.out.b1.frozen 2
      have n3 := II.out.b2.cell 3
      have r3 := II.out.b1.cell 3
      have f3 := II.out.b1.frozen 3
      have n4 := II.out.b2.cell 4
      have r4 := II.out.b1.cell 4
      have f4 := II.out.b1.frozen 4
      have n5 := II.out.b2.cell 5
      have r5 := II.out.b1.cell 5
      have f5 := II.out.b1.frozen 5
      have n6 := II.out.b2.cell 6
      have r6 := II.out.b1.cell 6
      have f6 := II.out.b1.frozen 6
      have n7 := II.out.b2.cell 7
      have r7 := II.out.b1.cell 7
      have f7 := II.out.b1.frozen 7
      have n8 := II.out.b2.cell 8
      have r8 := II.out.b1.cell 8
      have f8 := II.out.b1.frozen 8
      simp at n0 n1 n2 n3 n4 n5 n6 n7 n8 r0 r1 r2 r3 r4 r5 r6 r7 r8
      go_wp2
      have GE : wr.grownBy (((((((((wr.setCell ⟨w.heap.size + 1, 0, none⟩ (.slice pv ps.length cv)).setCell ⟨w.heap.size + 1, 1, none⟩ (.int .i64 b.kind)).setCell ⟨w.heap.size + 1, 2, none⟩ (.int .i64 b.ty)).setCell ⟨w.heap.size + 1, 3, none⟩ (.string b.txt)).setCell ⟨w.heap.size + 1, 4, none⟩ (.int .i64 b.num)).setCell ⟨w.heap.size + 1, 5, none⟩ (.slice none 0 0)).setCell ⟨w.heap.size + 1, 6, none⟩ (.string b.nm)).setCell ⟨w.heap.size + 1, 7, none⟩ (.int .i64 b.pl)).setCell ⟨w.heap.size + 1, 8, none⟩ (.slice pb b.kids.length cb)) (some (w.heap.size + 1)) := grown_set (grown_set (grown_set (grown_set (grown_set (grown_set (grown_set (grown_set (grown_set (grown_refl wr (some (w.heap.size + 1))) 0 (.slice pv ps.length cv)) 1 (.int .i64 b.kind)) 2 (.int .i64 b.ty)) 3 (.string b.txt)) 4 (.int .i64 b.num)) 5 (.slice none 0 0)) 6 (.string b.nm)) 7 (.int .i64 b.pl)) 8 (.slice pb b.kids.length cb)
      have BE : Blk (((((((((wr.setCell ⟨w.heap.size + 1, 0, none⟩ (.slice pv ps.length cv)).setCell ⟨w.heap.size + 1, 1, none⟩ (.int .i64 b.kind)).setCell ⟨w.heap.size + 1, 2, none⟩ (.int .i64 b.ty)).setCell ⟨w.heap.size + 1, 3, none⟩ (.string b.txt)).setCell ⟨w.heap.size + 1, 4, none⟩ (.int .i64 b.num)).setCell ⟨w.heap.size + 1, 5, none⟩ (.slice none 0 0)).setCell ⟨w.heap.size + 1, 6, none⟩ (.string b.nm)).setCell ⟨w.heap.size + 1, 7, none⟩ (.int .i64 b.pl)).setCell ⟨w.heap.size + 1, 8, none⟩ (.slice pb b.kids.length cb)) (w.heap.size + 1) 123 #[.slice pv ps.length cv, .int .i64 b.kind, .int .i64 b.ty, .string b.txt, .int .i64 b.num, .slice none 0 0, .string b.nm, .int .i64 b.pl, .slice pb b.kids.length cb] := by simpa using (((((((((II.out.b1).set 0 (.slice pv ps.length cv)).set 1 (.int .i64 b.kind)).set 2 (.int .i64 b.ty)).set 3 (.string b.txt)).set 4 (.int .i64 b.num)).set 5 (.slice none 0 0)).set 6 (.string b.nm)).set 7 (.int .i64 b.pl)).set 8 (.slice pb b.kids.length cb)
      have E0 := BE.cell 0
      have E1 := BE.cell 1
      have E2 := BE.cell 2
      have E3 := BE.cell 3
      have E4 := BE.cell 4
      have E5 := BE.cell 5
      have E6 := BE.cell 6
      have E7 := BE.cell 7
      have E8 := BE.cell 8
      simp at E0 E1 E2 E3 E4 E5 E6 E7 E8
      have mm := II.out.m3
      rw [HE.out]
      have K : Kp wr (((((((((wr.setCell ⟨w.heap.size + 1, 0, none⟩ (.slice pv ps.length cv)).setCell ⟨w.heap.size + 1, 1, none⟩ (.int .i64 b.kind)).setCell ⟨w.heap.size + 1, 2, none⟩ (.int .i64 b.ty)).setCell ⟨w.heap.size + 1, 3, none⟩ (.string b.txt)).setCell ⟨w.heap.size + 1, 4, none⟩ (.int .i64 b.num)).setCell ⟨w.heap.size + 1, 5, none⟩ (.slice none 0 0)).setCell ⟨w.heap.size + 1, 6, none⟩ (.string b.nm)).setCell ⟨w.heap.size + 1, 7, none⟩ (.int .i64 b.pl)).setCell ⟨w.heap.size + 1, 8, none⟩ (.slice pb b.kids.length cb)) (fun g => w.heap.size + 3 ≤ g ∧ g < w2.heap.size) := Kp.of_grown GE (fun b hb e => by injection e with e; have hb := hb.1; omega)
      refine bodyPost_ret (v := .agg #[.slice pv ps.length cv, .int .i64 b.kind, .int .i64 b.ty, .string b.txt, .int .i64 b.num, .slice none 0 0, .string b.nm, .int .i64 b.pl, .slice pb b.kids.length cb]) (by simp [results, Tryz.results59, go_sem, E0, E1, E2, E3, E4, E5, E6, E7, E8]) rfl ⟨pv, cv, _, rfl, HC.out.1, HC.out.2, ?_, (II.out.kb.keptP K (fun _ hh _ => hh)).mono (fun _ hh _ => hh.1), grown_ob' II.out.g GE (fun x e => by injection e with e; omega)⟩
      have h := Ck.own_kept II.out.row GE II.out.b1 (by decide)
      exact ⟨h.1, h.2.imp id (fun ⟨g, cap, cur, e1, e2, e3⟩ => ⟨g, cap, cur, e1, Nat.le_trans mm e2, e3⟩)⟩
end Ip
end Go.Proofs.YtajoncmmdeahnaaGreatDoor
