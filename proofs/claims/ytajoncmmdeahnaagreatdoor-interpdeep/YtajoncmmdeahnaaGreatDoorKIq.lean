/-
  The interpreter: a call. The interpreter: a statement. The interpreter: a statement without blocks. The interpreter: names told, variables assigned; all statements.
-/
import Derived.Test.YtajoncmmdeahnaaGreatDoorKIj
import Derived.Deep.CutRange
namespace Go.Proofs.YtajoncmmdeahnaaGreatDoor
open Go.RowKit
namespace Ip
theorem argsM_cons (R : Rc) (d : Nat) (s : ByteArray) (ps : List ByteArray) (x : Pd) (xs : List Pd) (f : Vm) : argsM R d (s :: ps) (x :: xs) f = if 1000000 < s.size then uns else R.ex d x >>= fun v => argsM R d ps xs (updV f s v) := by
  rw [argsM]
def callT (R : Rc) (d : Nat) (b : Pd) (f : Vm) : In V := (if d = 64 then trap 5 else pure ()) >>= fun _ => enterM R (d + 1) b f
theorem called_eq {E : Env} {R : Rc} {d : Nat} {n b : Pd} {ps : List ByteArray} (h : ¬ (1000000 < n.txt.size ∨ 1000 < n.kids.length)) (hb : E.bod n.txt = some (ps, b)) : calledM E R d n = argsM R d ps n.kids (fun _ => none) >>= fun f => callT R d b f := by
  unfold calledM
  rw [if_neg h, hb]
  rfl
def bodyC (pa : Option Addr) (n cap : Nat) (b : Pd) (qb : Value) : Array Value := #[.slice pa n cap, .int .i64 b.kind, .int .i64 b.ty, .string b.txt, .int .i64 b.num, .slice none 0 0, .string b.nm, .int .i64 b.pl, qb]
theorem StrR.at {w : World} {X : Xm} {pa : Option Addr} {ps : List ByteArray} (h : StrR w X pa ps) {j : Nat} (hj : j < ps.length) : ∃ g, pa = some ⟨g, 0, none⟩ ∧ w.cell? ⟨g, j, none⟩ = some (.string ps[j]) := by
  rcases h with rfl | ⟨g, cs, h1, _, h3, h4⟩
  · exact absurd hj (Nat.not_lt_zero _)
  · exact ⟨g, h1, by rw [h3.cell j]; exact h4 j _ (List.getElem?_eq_getElem hj)⟩
theorem argsM_nil (R : Rc) (d : Nat) (ps : List ByteArray) (f : Vm) : argsM R d ps [] f = pure f := by
  cases ps <;> rw [argsM]
theorem FrM.outerN {X : Xm} {c nm c' nm' : Nat} {a b e : World} (h : FrM X c nm a b) (k : FrM X c' nm' b e) (hc : a.heap.size ≤ c') (hn : a.heap.size ≤ nm') : FrM X c nm a e := h.outer k hc hn
structure CB0 (X : Xm) (E : Env) (d c nm : Nat) (w : World) (x : Pd) (q : Value) (pa : Option Addr) (pcap : Nat) (ps : List ByteArray) (b : Pd) (qb : Value) (tb ci mi : Nat) (j : Nat) (f : Vm) (s : Ms) (W : World) : Prop where
  m : Fm X E d c nm w x q W s
  r : Blk W (w.heap.size + 1) 115 #[.int .i64 0, .int .i64 0]
  t : Blk W tb 123 (bodyC pa ps.length pcap b qb)
  i : Blk W ci 129 #[.pointer (some ⟨X.m, 0, none⟩), .int .i64 ((d : Int) + 1), .map (some mi), .int .i64 0, .int .i64 0]
  n : Mp.MapR W mi j (vM f)
  sr : StrR W X pa ps
  kb : KsP W (PX X) qb b.kids
  zt : w.heap.size < tb
  zi : w.heap.size < ci
  zm : w.heap.size < mi
section
variable {X : Xm} {E : Env} {d c nm : Nat} {w W W' : World} {x b : Pd} {q qb : Value} {pa : Option Addr} {pcap tb ci mi j : Nat} {ps : List ByteArray} {f : Vm} {s s' : Ms}
theorem CB0.first {wb : World} (m : Fm X E d c nm w x q wb s) (r : Blk wb (w.heap.size + 1) 115 #[.int .i64 0, .int .i64 0]) (t : Blk wb tb 123 (bodyC pa ps.length pcap b qb)) (sr : StrR wb X pa ps) (kb : KsP wb (PX X) qb b.kids) (zt : w.heap.size < tb) (g : wb.grownBy W none) (i : Blk W ci 129 #[.pointer (some ⟨X.m, 0, none⟩), .int .i64 ((d : Int) + 1), .map (some mi), .int .i64 0, .int .i64 0]) (n : Mp.MapR W mi 0 (fun _ => none)) (zi : wb.heap.size ≤ ci) (zm : wb.heap.size ≤ mi) : CB0 X E d c nm w x q pa pcap ps b qb tb ci mi 0 (fun _ => none) s W :=
  ⟨m.grow g, r.kept g (by simp), t.kept g (by simp), i, n.congr (fun _ => rfl), sr.fr (Kp.of_none _ g), KsP.fr kb (Kp.of_none _ g), zt, by have := m.b.lt; omega, by have := m.b.lt; omega⟩
theorem CB0.grow (h : CB0 X E d c nm w x q pa pcap ps b qb tb ci mi j f s W) (g : W.grownBy W' none) : CB0 X E d c nm w x q pa pcap ps b qb tb ci mi j f s W' :=
  ⟨h.m.grow g, h.r.kept g (by simp), h.t.kept g (by simp), h.i.kept g (by simp), h.n.kept g (by simp), h.sr.fr (Kp.of_none _ g), KsP.fr h.kb (Kp.of_none _ g), h.zt, h.zi, h.zm⟩
theorem CB0.call (h : CB0 X E d c nm w x q pa pcap ps b qb tb ci mi j f s W) (hA : CaA W' X E d c nm s') (hF : FrM X c nm W W') : CB0 X E d c nm w x q pa pcap ps b qb tb ci mi j f s' W' := by
  obtain ⟨s0, h0⟩ := h.m.h0
  obtain ⟨n1, n2, n3, n4, n5, n6, n7⟩ := h0.new (Nat.le_of_lt h.zm)
  exact ⟨h.m.call hA hF, h.m.keep hF (Nat.le_succ _) h.r, h.m.keep hF (Nat.le_of_lt h.zt) h.t, h.m.keep hF (Nat.le_of_lt h.zi) h.i, h.n.heap (hF.block mi h.n.lt n1 n3 n4 n5 n6), h.sr.fr (h.m.a.px hF), KsP.fr h.kb (h.m.a.px hF), h.zt, h.zi, h.zm⟩
theorem CB0.store (h : CB0 X E d c nm w x q pa pcap ps b qb tb ci mi j f s W) (hj : j < maxLen) {t : ByteArray} (ht : t.size ≤ maxLen) (v : V) : ∃ W', (Instr.mapUpdate 78 (.map (some mi)) (.string t) (.agg #[.int .i64 v.1, .int .i64 v.2])).run Tryz.prog W = .ok () W' ∧ CB0 X E d c nm w x q pa pcap ps b qb tb ci mi (j + 1) (updV f t v) s W' := by
  obtain ⟨W', h1, h2, h3⟩ := h.n.store Tryz.underlying78 hj t ht (vV v)
  obtain ⟨s0, h0⟩ := h.m.h0
  obtain ⟨n1, n2, n3, n4, n5, n6, n7⟩ := h0.new (Nat.le_of_lt h.zm)
  have K : Kp W W' (PX X) := Kp.of_grown h3 (fun b hb e => by injection e with e; have := hb.2; omega)
  have ne : ∀ {g t cs}, Blk W g t cs → some g ≠ some mi := fun hB e => h.n.ne hB (Option.some.inj e)
  exact ⟨W', h1, h.m.wrote h.zm h3, h.r.kept h3 (ne h.r), h.t.kept h3 (ne h.t), h.i.kept h3 (ne h.i), h2.congr (fun y => (vM_upd _ _ _ _).symm), h.sr.fr K, KsP.fr h.kb K, h.zt, h.zi, h.zm⟩
theorem CB0.inner (h : CB0 X E d c nm w x q pa pcap ps b qb tb ci mi j f s W) (hd : d + 1 ≤ 64) (hj : j ≤ 1000) : CaA W X E (d + 1) ci mi { s with nam := f, ans := (0, 0) } := by
  obtain ⟨s0, h0⟩ := h.m.h0
  obtain ⟨_, _, _, _, _, _, n7⟩ := h0.new (Nat.le_of_lt h.zm)
  obtain ⟨_, _, _, _, _, _, k7⟩ := h0.new (Nat.le_of_lt h.zi)
  have hM := h.m.a.ma
  exact ⟨⟨hM.ok, hM.hi, hM.blk, hM.bod, hM.glo, hM.vis, hM.le, hM.fu⟩, ⟨h.i, h.n.more (by show j ≤ 1000 + s.wr; omega), k7, n7, hd⟩⟩
theorem blkT {w : World} {g : Nat} {t t' : TypeId} {cs cs' : Array Value} (h : Blk w g t cs) (h' : Blk w g t' cs') : t = t' := by
  unfold Blk at h h'
  rw [h] at h'
  injection h' with h'
  injection h' with _ h'
theorem CB0.back (h : CB0 X E d c nm w x q pa pcap ps b qb tb ci mi j f s W) {d' : Nat} (hA : CaA W' X E d' ci mi s') (hF : FrM X ci mi W W') (hw : s.wr ≤ s'.wr) : Fm X E d c nm w x q W' { s' with nam := s.nam, ans := s.ans } ∧ Blk W' (w.heap.size + 1) 115 #[.int .i64 0, .int .i64 0] := by
  obtain ⟨s0, h0⟩ := h.m.h0
  have zi := h.zi
  have zm := h.zm
  obtain ⟨i1, i2, i3, i4, i5, i6, i7⟩ := h0.new (Nat.le_of_lt h.zi)
  obtain ⟨m1, m2, m3, m4, m5, m6, m7⟩ := h0.new (Nat.le_of_lt h.zm)
  obtain ⟨b1, b2, b3, b4, b5, b6, b7⟩ := h0.new (Nat.le_refl _)
  obtain ⟨r1, r2, r3, r4, r5, r6, r7⟩ := h0.new (Nat.le_succ _)
  have hM := hA.ma
  have hO := hM.ok
  have o1 := hO.m
  have o2 := hO.g
  have o3 := hO.v
  have o4 := hO.lh
  have hC := h.m.a.ca
  have c1 := hC.c
  have c2 := hC.nm
  have ri : w.heap.size + 1 ≠ ci := fun e => by have h2 := h.r; rw [e] at h2; exact absurd (blkT h2 h.i) (by decide)
  have rm : w.heap.size + 1 ≠ mi := fun e => h.n.ne h.r e
  have K : Kp W W' (PX X) := hF.px hO i7 m7
  refine ⟨⟨h.m.h0, ⟨⟨hM.ok, hM.hi, hM.blk, hM.bod, hM.glo, hM.vis, hM.le, hM.fu⟩, ⟨?_, ?_, c1, c2, hC.d⟩⟩, h.m.f.outerN hF (Nat.le_of_lt zi) (Nat.le_of_lt zm), ?_, KsP.fr h.m.k K⟩, ?_⟩
  · exact (hF.block c hC.blk.lt (by omega) (by omega) (by omega) (Ne.symm i5) (Ne.symm m5)).trans hC.blk
  · exact (hC.nam.heap (hF.block nm hC.nam.lt (by omega) (by omega) (by omega) (Ne.symm i6) (Ne.symm m6))).more (by show 1000 + s.wr ≤ 1000 + s'.wr; omega)
  · exact (hF.block _ h.m.b.lt b1 b3 b4 (by omega) (by omega)).trans h.m.b
  · exact (hF.block _ h.r.lt r1 r3 r4 ri rm).trans h.r
end
theorem zero123 (w : World) : (zeroValue 123).run Tryz.prog w = .ok (.agg #[.slice none 0 0, .int .i64 0, .int .i64 0, .string ⟨#[]⟩, .int .i64 0, .slice none 0 0, .string ⟨#[]⟩, .int .i64 0, .slice none 0 0]) w := by kernel_rfl
set_option maxRecDepth 100000 in
set_option maxHeartbeats 8000000 in
theorem called_go {X : Xm} {E : Env} {R : Rc} (hE : MeC X E 151 vV R.ex) (hB : MeC X E 61 bU R.bl) {d c nm : Nat} {x b : Pd} {ps : List ByteArray} {q : Value} {w : World} {st : Ms} (hA : CaA w X E d c nm st) (hk : KsP w (PX X) q x.kids) (hs : ¬ (1000000 < x.txt.size ∨ 1000 < x.kids.length)) (hb : E.bod x.txt = some (ps, b)) (hx : (argsM R d ps x.kids (fun _ => none) >>= fun f => callT R d b f) st ≠ .error none) :
    Calls Tryz.prog 184 #[.pointer (some ⟨c, 0, none⟩), ndV x q] w (InP vV X E d c nm w ((argsM R d ps x.kids (fun _ => none) >>= fun f => callT R d b f) st)) := by
  obtain ⟨p, cap, rfl, hc1, hc2, _⟩ := hk.form
  have hM0 := (Fm.start hA hk).grow (grown_alloc (grown_refl _ none) (.cells #[.int .i64 0, .int .i64 0] 115))
  have hB0 : Blk ((w.alloc (.cells (ndC x (.slice p x.kids.length cap)) 121)).alloc (.cells #[.int .i64 0, .int .i64 0] 115)) (w.heap.size + 1) 115 #[.int .i64 0, .int .i64 0] := by simpa using Blk.new (w.alloc (.cells (ndC x (.slice p x.kids.length cap)) 121)) 115 #[.int .i64 0, .int .i64 0]
  unfold ndC at hM0 hB0
  have M0 := hid hM0
  have B0 := hid hB0
  have HX := hid hx
  have HE := hid hE
  have HB := hid hB
  have HS := hid hs
  have HC := hid (And.intro hc1 hc2)
  have HBB := hid hb
  unfold ndV
  clear hM0 hB0 hx hA hk hE hB hs hc1 hc2 hb
  go_enter Tryz.func184, Tryz.ntmps184
  go_wp2_with fail
  generalize (w.alloc (Obj.cells #[Value.int IntKind.i64 x.kind, Value.int IntKind.i64 x.ty, Value.string x.txt, Value.int IntKind.i64 x.num, Value.slice none 0 0, Value.string x.nm, Value.int IntKind.i64 x.pl, Value.slice p x.kids.length cap] 121)).alloc (Obj.cells #[Value.int IntKind.i64 0, Value.int IntKind.i64 0] 115) = wa at *
  have D0 := hid (M0.out.grow (grown_drew (grown_refl wa none)))
  have E0 := hid (B0.out.kept (grown_drew (grown_refl wa none)) (by simp))
  obtain ⟨a0, a1, a2⟩ := M0.out.at
  obtain ⟨n0, n1, n2, n3, n4, n5, n6, n7⟩ := M0.out.cells
  have y0 := M0.out.a.ma.blk.cell 0
  simp at y0
  obtain ⟨bn, bf, hbm, hbf⟩ := D0.out.a.ma.bod
  have hbx := hbf x.txt
  rw [HBB.out] at hbx
  obtain ⟨pa, pcap, qb, e1, e2, e3, e4, e5⟩ := hbx
  have hps : x.txt.size ≤ maxLen := max1 (fun h => HS.out (Or.inl h))
  have L1 := hbm.look1 Tryz.underlying77 (zero123 wa.drew) x.txt hps
  rw [e1] at L1
  simp only [Option.getD_some] at L1
  unfold bodyV at L1
  have MD1 := hid (D0.out.grow (grown_alloc (grown_refl wa.drew none) (.cells (bodyC pa ps.length pcap b qb) 123)))
  have ED1 := hid (E0.out.alloc (.cells (bodyC pa ps.length pcap b qb) 123))
  have BD1 := hid (Blk.new wa.drew 123 (bodyC pa ps.length pcap b qb))
  have SR := hid (And.intro e2 (And.intro e3 (And.intro (StrR.fr e4 (Kp.of_none _ (grown_alloc (grown_refl wa.drew none) (.cells (bodyC pa ps.length pcap b qb) 123)))) (KsP.fr e5 (Kp.of_none _ (grown_alloc (grown_refl wa.drew none) (.cells (bodyC pa ps.length pcap b qb) 123)))))))
  obtain ⟨pb, cb, rfl, _, _, _⟩ := e5.form
  unfold bodyC at MD1 ED1 BD1 SR
  have GZ := grown_alloc (grown_refl wa none) (.cells #[.slice none 0 0, .int .i64 0, .int .i64 0, .string ⟨#[]⟩, .int .i64 0, .slice none 0 0, .string ⟨#[]⟩, .int .i64 0, .slice none 0 0] 123)
  have MZ := M0.out.grow GZ
  obtain ⟨z0, z1, z2⟩ := MZ.at
  obtain ⟨m0, m1, m2, m3, m4, m5, m6, m7⟩ := MZ.cells
  have yz := MZ.a.ma.blk.cell 0
  simp at yz
  have L2 := (hbm.heap ((grown_drew GZ).block X.mb (M0.out.a.ma.bod.lt) (by simp))).look1 Tryz.underlying77 (zero123 (wa.alloc (.cells #[.slice none 0 0, .int .i64 0, .int .i64 0, .string ⟨#[]⟩, .int .i64 0, .slice none 0 0, .string ⟨#[]⟩, .int .i64 0, .slice none 0 0] 123)).drew) x.txt hps
  rw [e1] at L2
  simp only [Option.getD_some] at L2
  unfold bodyV at L2
  clear hbm hbf e1 e2 e3 e4 e5 hps GZ MZ
  have y1 := M0.out.a.ca.d
  have ed : wrap64 ((d : Int) + 1) = (d : Int) + 1 := by unfold wrap64; omega
  go_upto_region 1 with fail
  go_cut [5] from 9 to 19 (fun c5 W => c5 = .pointer (some ⟨wa.heap.size, 0, none⟩) ∧ W = (wa.alloc (.cells #[.slice pa ps.length pcap, .int .i64 b.kind, .int .i64 b.ty, .string b.txt, .int .i64 b.num, .slice none 0 0, .string b.nm, .int .i64 b.pl, .slice pb b.kids.length cb] 123)).drew)
  case first =>
    go_region
    all_goals
      (try go_wp2_with fail)
      go_meet
      exact ⟨rfl, rfl⟩
  case rest =>
    obtain ⟨rfl, rfl⟩ := hcut
    clear a0 a1 a2 n0 n1 n2 n3 n4 n5 n6 n7 z0 z1 z2 m0 m1 m2 m3 m4 m5 m6 m7 yz y0 L1 L2
    have GA := grown_drew (grown_alloc (grown_refl wa none) (.cells #[.slice pa ps.length pcap, .int .i64 b.kind, .int .i64 b.ty, .string b.txt, .int .i64 b.num, .slice none 0 0, .string b.nm, .int .i64 b.pl, .slice pb b.kids.length cb] 123))
    have MB := hid (M0.out.grow GA)
    have RB0 := hid (B0.out.kept GA (by simp))
    have TB := hid ((Blk.new wa 123 #[.slice pa ps.length pcap, .int .i64 b.kind, .int .i64 b.ty, .string b.txt, .int .i64 b.num, .slice none 0 0, .string b.nm, .int .i64 b.pl, .slice pb b.kids.length cb]).drew)
    have SB : Hid (StrR ((wa.alloc (.cells #[.slice pa ps.length pcap, .int .i64 b.kind, .int .i64 b.ty, .string b.txt, .int .i64 b.num, .slice none 0 0, .string b.nm, .int .i64 b.pl, .slice pb b.kids.length cb] 123)).drew) X pa ps ∧ KsP ((wa.alloc (.cells #[.slice pa ps.length pcap, .int .i64 b.kind, .int .i64 b.ty, .string b.txt, .int .i64 b.num, .slice none 0 0, .string b.nm, .int .i64 b.pl, .slice pb b.kids.length cb] 123)).drew) (PX X) (.slice pb b.kids.length cb) b.kids) := hid ⟨StrR.fr SR.out.2.2.1 (fun b hb hl => rfl), KsP.fr SR.out.2.2.2 (fun b hb hl => rfl)⟩
    have ZT : Hid (w.heap.size < wa.heap.size) := hid (by have := B0.out.lt; omega)
    generalize (wa.alloc (.cells #[.slice pa ps.length pcap, .int .i64 b.kind, .int .i64 b.ty, .string b.txt, .int .i64 b.num, .slice none 0 0, .string b.nm, .int .i64 b.pl, .slice pb b.kids.length cb] 123)).drew = wb at *
    obtain ⟨a0, a1, a2⟩ := MB.out.at
    obtain ⟨z0, z1, z2⟩ := (MB.out.grow (grown_alloc (grown_refl wb none) (.cells #[.pointer none, .int .i64 0, .map none, .int .i64 0, .int .i64 0] 129))).at
    obtain ⟨v0, v1, v2⟩ := (MB.out.grow (grown_alloc (grown_refl wb none) (.map #[] 0))).at
    obtain ⟨q0, q1, q2⟩ := (MB.out.grow (grown_alloc (grown_alloc (grown_refl wb none) (.cells #[.pointer none, .int .i64 0, .map none, .int .i64 0, .int .i64 0] 129)) (.map #[] 0))).at
    obtain ⟨p0, p1, p2⟩ := (MB.out.grow (grown_alloc (grown_alloc (grown_refl wb none) (.map #[] 0)) (.cells #[.pointer none, .int .i64 0, .map none, .int .i64 0, .int .i64 0] 129))).at
    clear GA SR MD1 ED1 BD1 D0 E0
    have MK : ∀ W : World, (Instr.makeMap 78 none).run Tryz.prog W = .ok (.map (some W.heap.size)) (W.alloc (.map #[] 0)) := fun W => by kernel_rfl
    go_upto_region 2 with fail
    go_cut [6] from 20 to 30 (fun c6 W => ∃ ci mi, c6 = .pointer (some ⟨ci, 0, none⟩) ∧ CB0 X E d c nm w x (.slice p x.kids.length cap) pa pcap ps b (.slice pb b.kids.length cb) wa.heap.size ci mi 0 (fun _ => none) st W)
    case first =>
      go_region
      all_goals
        (try go_wp2_with fail)
        go_meet
        first
          | exact ⟨wb.heap.size + 1, wb.heap.size, rfl, CB0.first MB.out RB0.out TB.out SB.out.1 SB.out.2 ZT.out (grown_drew (grown_alloc (grown_alloc (grown_refl wb none) _) _)) (by simpa using (Blk.new (wb.alloc (.map #[] 0)) 129 #[.pointer (some ⟨X.m, 0, none⟩), .int .i64 ((d : Int) + 1), .map (some wb.heap.size), .int .i64 0, .int .i64 0]).drew) ((Mp.MapR.made wb).kept (grown_drew (grown_alloc (grown_refl _ none) _)) (by simp)) (by omega) (by omega)⟩
          | exact ⟨wb.heap.size, wb.heap.size + 1, rfl, CB0.first MB.out RB0.out TB.out SB.out.1 SB.out.2 ZT.out (grown_drew (grown_alloc (grown_alloc (grown_refl wb none) _) _)) (((Blk.new wb 129 #[.pointer (some ⟨X.m, 0, none⟩), .int .i64 ((d : Int) + 1), .map (some (wb.heap.size + 1)), .int .i64 0, .int .i64 0]).alloc _).drew) (by simpa using (Mp.MapR.made (wb.alloc (.cells #[.pointer (some ⟨X.m, 0, none⟩), .int .i64 ((d : Int) + 1), .map (some (wb.heap.size + 1)), .int .i64 0, .int .i64 0] 129))).kept (grown_drew (grown_refl _ none)) (by simp)) (by omega) (by omega)⟩
    case rest =>
      obtain ⟨ci, mi, rfl, hC0⟩ := hcut
      clear a0 a1 a2 z0 z1 z2 v0 v1 v2 p0 p1 p2 q0 q1 q2
      obtain ⟨L, hL⟩ : ∃ L, x.kids.length = L := ⟨_, rfl⟩
      have HL := hid hL
      have MC := hid hC0
      have n7 := hC0.m.cells.2.2.2.2.2.2.2
      rw [hL] at n7
      have LM : Hid (L ≤ 1000) := hid (by have h := HS.out; omega)
      clear hC0 hL
      go_wp2
      go_loopw [34] (fun i wr => ∃ (j : Nat) (s : Ms) (f : Vm), j ≤ L ∧ i = .int .i64 j ∧ CB0 X E d c nm w x (.slice p x.kids.length cap) pa pcap ps b (.slice pb b.kids.length cb) wa.heap.size ci mi j f s wr ∧ argsM R d ps x.kids (fun _ => none) st = argsM R d (ps.drop j) (x.kids.drop j) f s) (fun i _ => L - (intOf i).toNat)
      case atStart => exact ⟨0, st, _, Nat.zero_le _, rfl, MC.out, rfl⟩
      case round =>
        obtain ⟨j, s, f, hj, rfl, hF, hE⟩ := hrel
        clear n7
        have hln := HL.out
        have hlm := LM.out
        have j0 : (0 : Int) ≤ j := by omega
        by_cases hlt : j < L
        · have j1 : (j : Int) < L := by omega
          have jm : (L : Int) ≤ 1000 := by omega
          have hjk : j < x.kids.length := by omega
          have HE0 : Hid ((argsM R d ps x.kids (fun _ => none) >>= fun f => callT R d b f) st = In.bnd (fun _ => argsM R d (ps.drop j) (x.kids.drop j) f s) (fun f => callT R d b f) st) := hid (by show In.bnd _ _ st = _; unfold In.bnd; rw [hE])
          obtain ⟨g, rfl, hg, hat⟩ := hF.m.k.at j hjk
          rw [List.drop_eq_getElem_cons hjk] at hE
          have hne : argsM R d ps x.kids (fun _ => none) st ≠ .error none := fun h => HX.out (bnd_err h)
          by_cases hjp : j < ps.length
          · rw [List.drop_eq_getElem_cons hjp, argsM_cons] at hE
            by_cases hsz : 1000000 < (ps[j]).size
            · rw [if_pos hsz] at hE
              exact absurd hE hne
            rw [if_neg hsz] at hE
            have SZ : Hid ((ps[j]).size ≤ maxLen) := hid (max1 hsz)
            obtain ⟨g1, hpa, _⟩ := hF.sr.at hjp
            have STR : Hid (∀ W, StrR W X pa ps → W.cell? ⟨g1, j, none⟩ = some (.string ps[j])) := hid (fun W h => by
              obtain ⟨g2, h1, h2⟩ := h.at hjp
              rw [hpa] at h1
              injection h1 with h1
              injection h1 with h1
              subst h1
              exact h2)
            obtain ⟨qy, c0, c1, c2, c3, c4, c5, c6, c7, hky⟩ := hat.cells
            rw [Nat.mul_comm 8 j] at c0 c1 c2 c3 c4 c5 c6 c7
            have JJ := hid (And.intro hlt (And.intro hjk hjp))
            have JM : Hid (j < maxLen) := hid (by unfold maxLen; omega)
            have jp : (j : Int) < (ps.length : Int) := by omega
            have HE1 := hid hE
            have HN2 := hid (bnd_ne (by rw [← hE]; exact hne))
            generalize ps[j] = tx at *
            generalize x.kids[j] = y at *
            obtain ⟨py, cy, rfl, _, _, _⟩ := hky.form
            have GA := grown_alloc (grown_refl wr none) (.cells #[.int .i64 y.kind, .int .i64 y.ty, .string y.txt, .int .i64 y.num, .slice none 0 0, .string y.nm, .int .i64 y.pl, .slice py y.kids.length cy] 121)
            have MA2 := hid (hF.grow GA)
            have MD2 := hid (hF.grow (grown_drew GA))
            have KY := hid (KsP.fr hky (Kp.of_none _ (grown_drew GA)))
            have BY := Blk.new wr 121 #[.int .i64 y.kind, .int .i64 y.ty, .string y.txt, .int .i64 y.num, .slice none 0 0, .string y.nm, .int .i64 y.pl, .slice py y.kids.length cy]
            have t0 := MA2.out.t.cell 0
            have x2 := MA2.out.i.cell 2
            have ss := STR.out _ MA2.out.sr
            unfold bodyC at t0
            simp at t0 x2
            subst hpa
            clear hE HE0 hat hky hF GA hln hjk hg hj hne hsz hjp hlm
            go_wp2_with fail
            go_region_law (first
              | (go_simp; go_at_call 151; refine (HE.out d y (.slice py y.kids.length cy) c nm _ s MD2.out.m.a KY.out HN2.out).mono ?_; intro e w2 hh; rcases InP.cases hh HN2.out with ⟨n, s9, hz, rfl, hM, hF⟩ | ⟨v, s2, hz, rfl, hA2, hF⟩; (case inl => exact ⟨rfl, by rw [bnd_err (HE1.out.trans (bnd_err hz))]; exact ⟨rfl, hM, MD2.out.m.f.trans hF⟩⟩); have HZ2 := hid (And.intro hz trivial); have C2 := hid (MD2.out.call hA2 hF); obtain ⟨w3, hrun, hC3⟩ := C2.out.store JM.out SZ.out v; have C3 := hid hC3; clear t0 x2 ss hC3 hz hA2 hF hh; have t0 := C2.out.t.cell 0; have x2 := C2.out.i.cell 2; have ss := STR.out w2 C2.out.sr; unfold bodyC at t0; simp at t0 x2; unfold vV))
            all_goals
              (try go_wp2_with fail)
              go_roundw
              case rel => exact ⟨j + 1, s2, _, JJ.out.1, by go_num, C3.out, HE1.out.trans (bnd_ok HZ2.out.1)⟩
              case measure => have := JJ.out.1; simp [intOf]; omega
          · rw [List.drop_eq_nil_of_le (Nat.le_of_not_lt hjp), argsM] at hE
            exact absurd hE hne
        · have j1 : ¬ (j : Int) < L := by omega
          rw [List.drop_eq_nil_of_le (show x.kids.length ≤ j by omega), argsM_nil] at hE
          have HEV : Hid ((argsM R d ps x.kids (fun _ => none) >>= fun f => callT R d b f) st = callT R d b f s) := hid (bnd_ok hE)
          have hne : callT R d b f s ≠ .error none := by rw [← HEV.out]; exact HX.out
          have hdm := hF.m.a.ca.d
          have hj9 : j ≤ 1000 := by omega
          obtain ⟨a0, a1, a2⟩ := hF.m.at
          have FF := hid hF
          clear hE hln hlm hj
          by_cases hd : d = 64
          · have e64 : ((d : Int) == 64) = true := by rw [beq_iff_eq]; omega
            have HC5 : Hid (callT R d b f s = .error (some (5, s))) := hid (by unfold callT; rw [if_pos hd]; rfl)
            have CN : Hid (∀ W, Calls Tryz.prog 148 #[.int .i64 (5 : Nat)] W fun e w' => e = .panicked (TrV 5) ∧ w' = W) := hid (fun W => need_trap 5 (by decide) W)
            clear hd hne hF hdm hj9
            go_wp2_with (go_at_call 148; refine (CN.out _).mono ?_; rintro e w5 ⟨rfl, hw⟩; replace hw := hw.symm; subst hw)
            exact ⟨rfl, by rw [HEV.out, HC5.out]; exact ⟨rfl, FF.out.m.a.ma, FF.out.m.f⟩⟩
          · have e64 : ((d : Int) == 64) = false := by rw [beq_eq_false_iff_ne]; omega
            have hc : callT R d b f s = enterM R (d + 1) b f s := by unfold callT; rw [if_neg hd]; rfl
            rw [hc] at hne
            have IN := hid (hF.inner (by omega) (by omega))
            have t1 := hF.t.cell 1
            have t2 := hF.t.cell 2
            have t3 := hF.t.cell 3
            have t4 := hF.t.cell 4
            have t5 := hF.t.cell 5
            have t6 := hF.t.cell 6
            have t7 := hF.t.cell 7
            have t8 := hF.t.cell 8
            unfold bodyC at t1 t2 t3 t4 t5 t6 t7 t8
            simp at t1 t2 t3 t4 t5 t6 t7 t8
            rcases hz : R.bl (d + 1) b { s with nam := f, ans := (0, 0) } with e0 | ⟨bb, s2⟩
            · rcases e0 with _ | ⟨n, s2⟩
              · exact absurd (by unfold enterM; rw [hz]) hne
              have HZ := hid hz
              have HN4 : Hid (R.bl (d + 1) b { s with nam := f, ans := (0, 0) } ≠ .error none) := hid (by rw [hz]; intro h; cases h)
              have HC6 : Hid (callT R d b f s = .error (some (n, s2))) := hid (by rw [hc]; unfold enterM; rw [hz])
              clear hz hne hc hF hd hdm hj9
              go_wp2_with (go_at_call 61; refine (HB.out (d + 1) b (.slice pb b.kids.length cb) ci mi _ _ IN.out FF.out.kb HN4.out).mono ?_; intro e w2 hh; rw [HZ.out] at hh; obtain ⟨rfl, hM, hF2⟩ := hh)
              exact ⟨rfl, by rw [HEV.out, HC6.out]; exact ⟨rfl, hM, FF.out.m.f.outerN hF2 (Nat.le_of_lt FF.out.zi) (Nat.le_of_lt FF.out.zm)⟩⟩
            · by_cases hw : s.wr ≤ s2.wr
              · have HZ := hid hz
                have HN4 : Hid (R.bl (d + 1) b { s with nam := f, ans := (0, 0) } ≠ .error none) := hid (by rw [hz]; intro h; cases h)
                have HC6 : Hid (callT R d b f s = .ok (s2.ans, { s2 with nam := s.nam, ans := s.ans })) := hid (by
                  rw [hc]
                  unfold enterM
                  rw [hz]
                  simp only [if_pos hw])
                have HW := hid hw
                clear hz hne hc hF hd hdm hw hj9
                go_wp2_with (go_at_call 61; refine (HB.out (d + 1) b (.slice pb b.kids.length cb) ci mi _ _ IN.out FF.out.kb HN4.out).mono ?_; intro e w2 hh; rw [HZ.out] at hh; obtain ⟨rfl, hA2, hF2⟩ := hh; have BK := hid (FF.out.back hA2 hF2 HW.out); have d3 := hA2.ca.blk.cell 3; have d4 := hA2.ca.blk.cell 4; simp at d3 d4; obtain ⟨c0, c1, f0, f1⟩ := Vl.two_cells BK.out.2; clear a0 a1 a2 t1 t2 t3 t4 t5 t6 t7 t8 hA2 hF2)
                obtain ⟨z0, z1, _, _⟩ := Vl.two_cells (Vl.blk_two BK.out.2 (.int .i64 s2.ans.1) (.int .i64 s2.ans.2))
                refine bodyPost_ret (v := vV s2.ans) (by simp [vV, results, Tryz.results184, go_sem, z0, z1]) rfl ?_
                rw [HEV.out, HC6.out]
                exact ⟨rfl, BK.out.1.two _ _⟩
              · exact absurd (by unfold enterM; rw [hz]; simp only [if_neg hw]) hne
theorem called_any {X : Xm} {E : Env} {R : Rc} (hE : MeC X E 151 vV R.ex) (hB : MeC X E 61 bU R.bl) : MeC X E 184 vV (calledM E R) := by
  intro d x q c nm w st hA hk hx
  by_cases h : 1000000 < x.txt.size ∨ 1000 < x.kids.length
  · unfold calledM at hx
    rw [if_pos h] at hx
    exact absurd rfl hx
  cases hb : E.bod x.txt with
  | none =>
    unfold calledM at hx
    rw [if_neg h, hb] at hx
    exact absurd rfl hx
  | some v =>
    obtain ⟨ps, b⟩ := v
    rw [called_eq h hb] at hx ⊢
    exact called_go hE hB hA hk h hb hx
end Ip
end Go.Proofs.YtajoncmmdeahnaaGreatDoor
namespace Go.Proofs.YtajoncmmdeahnaaGreatDoor
open Go.RowKit
namespace Ip
def stmtT (R : Rc) (k d : Nat) (n : Pd) : In Bool :=
  if n.kind = 9 then branchM R d n
  else if n.kind = 10 then loopM R d n k
  else if n.kind = 11 then kidM n 0 (R.ex d) >>= fun v => answerM v >>= fun _ => pure true
  else if n.kind = 7 then kidM n 0 (R.ex d) >>= fun v => defineM n.txt v >>= fun _ => pure false
  else if n.kind = 8 then kidM n 0 (R.ex d) >>= fun v => assignM n.txt v >>= fun _ => pure false
  else if n.kind = 12 then kidM n 0 (R.ex d) >>= fun v => (if trueV v then pure () else trap 2) >>= fun _ => pure false
  else if n.kind = 13 then kidM n 0 (R.ex d) >>= fun _ => pure false
  else pure false
theorem stmtM_eq (E : Env) (R : Rc) (k d : Nat) (n : Pd) : stmtM E R k d n = stepM E n >>= fun _ => stmtT R k d n := rfl
theorem stmtT_9 (R : Rc) (k d : Nat) (n : Pd) (h : n.kind = 9) : stmtT R k d n = branchM R d n := by
  unfold stmtT
  rw [if_pos h]
theorem stmtT_10 (R : Rc) (k d : Nat) (n : Pd) (h : n.kind = 10) : stmtT R k d n = loopM R d n k := by
  unfold stmtT
  rw [if_neg (by omega), if_pos h]
theorem stmtT_11 (R : Rc) (k d : Nat) (n : Pd) (h : n.kind = 11) : stmtT R k d n = (kidM n 0 (R.ex d) >>= fun v => answerM v >>= fun _ => pure true) := by
  unfold stmtT
  rw [if_neg (by omega), if_neg (by omega), if_pos h]
theorem stmtT_7 (R : Rc) (k d : Nat) (n : Pd) (h : n.kind = 7) : stmtT R k d n = (kidM n 0 (R.ex d) >>= fun v => defineM n.txt v >>= fun _ => pure false) := by
  unfold stmtT
  rw [if_neg (by omega), if_neg (by omega), if_neg (by omega), if_pos h]
theorem stmtT_8 (R : Rc) (k d : Nat) (n : Pd) (h : n.kind = 8) : stmtT R k d n = (kidM n 0 (R.ex d) >>= fun v => assignM n.txt v >>= fun _ => pure false) := by
  unfold stmtT
  rw [if_neg (by omega), if_neg (by omega), if_neg (by omega), if_neg (by omega), if_pos h]
theorem stmtT_12 (R : Rc) (k d : Nat) (n : Pd) (h : n.kind = 12) : stmtT R k d n = (kidM n 0 (R.ex d) >>= fun v => (if trueV v then pure () else trap 2) >>= fun _ => pure false) := by
  unfold stmtT
  rw [if_neg (by omega), if_neg (by omega), if_neg (by omega), if_neg (by omega), if_neg (by omega), if_pos h]
theorem stmtT_13 (R : Rc) (k d : Nat) (n : Pd) (h : n.kind = 13) : stmtT R k d n = (kidM n 0 (R.ex d) >>= fun _ => pure false) := by
  unfold stmtT
  rw [if_neg (by omega), if_neg (by omega), if_neg (by omega), if_neg (by omega), if_neg (by omega), if_neg (by omega), if_pos h]
set_option maxRecDepth 100000 in
set_option maxHeartbeats 8000000 in
theorem st_9 {X : Xm} {E : Env} {R : Rc} {k d c nm : Nat} (h149 : MeC X E 149 bU (branchM R)) (x : Pd) (q : Value) (w : World) (st : Ms) (hA : CaA w X E d c nm st) (hk : KsP w (PX X) q x.kids) (hx : stmtM E R k d x st ≠ .error none) (hkd : x.kind = 9) :
    Calls Tryz.prog 108 #[.pointer (some ⟨c, 0, none⟩), ndV x q] w (InP bU X E d c nm w (stmtM E R k d x st)) := by
  have hM0 := Fm.start hA hk
  unfold ndC at hM0
  have M0 := hid hM0
  have HX := hid hx
  have KD := hid hkd
  clear hkd
  unfold ndV
  clear hM0 hx hA hk
  go_enter Tryz.func108, Tryz.ntmps108
  go_wp2_with fail
  generalize w.alloc (Obj.cells #[Value.int IntKind.i64 x.kind, Value.int IntKind.i64 x.ty, Value.string x.txt, Value.int IntKind.i64 x.num, Value.slice none 0 0, Value.string x.nm, Value.int IntKind.i64 x.pl, q] 121) = wa at *
  have D0 := hid (M0.out.grow (grown_drew (grown_refl wa none)))
  obtain ⟨a0, a1, a2⟩ := M0.out.at
  obtain ⟨n0, n1, n2, n3, n4, n5, n6, n7⟩ := M0.out.cells
  go_region_law (go_simp; go_at_call 107; refine (step_any x (q) _ st D0.out.a (bnd_ne HX.out)).mono ?_; intro e w1 hh; rcases InP.cases hh (bnd_ne HX.out) with ⟨n, s1, hz, rfl, hM, hF⟩ | ⟨_, s1, hz, rfl, hA1, hF⟩; (case inl => exact ⟨rfl, by rw [stmtM_eq, bnd_err hz]; exact ⟨rfl, hM, D0.out.f.trans hF⟩⟩); have HZ1 := hid (And.intro hz trivial); have M1 := hid (D0.out.call hA1 hF); have HN1 : Hid (stmtT R k d x s1 ≠ .error none) := hid (by have h := HX.out; rw [stmtM_eq, bnd_ok hz] at h; exact h); clear a0 a1 a2 n0 n1 n2 n3 n4 n5 n6 n7 hz hA1 hF hh; obtain ⟨a0, a1, a2⟩ := M1.out.at; obtain ⟨n0, n1, n2, n3, n4, n5, n6, n7⟩ := M1.out.cells; rw [KD.out] at n0)
  all_goals
    have hT := stmtT_9 R k d x KD.out
    have HN2 : Hid (branchM R d x s1 ≠ .error none) := hid (by have h := HN1.out; rw [hT] at h; exact h)
    go_wp2_with (go_at_call 149; refine Vl.calls_at (args := #[.pointer (some ⟨c, 0, none⟩), ndV x q]) (by unfold ndV; rw [KD.out]) ?_; refine (h149 d x q c nm _ s1 M1.out.a M1.out.k HN2.out).mono ?_; intro e w2 hh; rcases InP.cases hh HN2.out with ⟨n, s2, hz, rfl, hM, hF⟩ | ⟨v, s2, hz, rfl, hA2, hF⟩; (case inl => exact ⟨rfl, by rw [stmtM_eq, bnd_ok HZ1.out.1, hT, show (branchM R d x) s1 = _ from hz]; exact ⟨rfl, hM, M1.out.f.trans hF⟩⟩); have HZ2 := hid (And.intro hT hz); have M2 := hid (M1.out.call hA2 hF); unfold bU; clear a0 a1 a2 n0 n1 n2 n3 n4 n5 n6 n7 hz hA2 hF hh hT)
    go_ret
    rw [stmtM_eq, bnd_ok HZ1.out.1, HZ2.out.1, show (branchM R d x) s1 = _ from HZ2.out.2]
    exact ⟨rfl, M2.out.a, M2.out.f⟩
set_option maxRecDepth 100000 in
set_option maxHeartbeats 8000000 in
theorem st_10 {X : Xm} {E : Env} {R : Rc} {k d c nm : Nat} (h150 : MeC X E 150 bU (fun d x => loopM R d x k)) (x : Pd) (q : Value) (w : World) (st : Ms) (hA : CaA w X E d c nm st) (hk : KsP w (PX X) q x.kids) (hx : stmtM E R k d x st ≠ .error none) (hkd : x.kind = 10) :
    Calls Tryz.prog 108 #[.pointer (some ⟨c, 0, none⟩), ndV x q] w (InP bU X E d c nm w (stmtM E R k d x st)) := by
  have hM0 := Fm.start hA hk
  unfold ndC at hM0
  have M0 := hid hM0
  have HX := hid hx
  have KD := hid hkd
  clear hkd
  unfold ndV
  clear hM0 hx hA hk
  go_enter Tryz.func108, Tryz.ntmps108
  go_wp2_with fail
  generalize w.alloc (Obj.cells #[Value.int IntKind.i64 x.kind, Value.int IntKind.i64 x.ty, Value.string x.txt, Value.int IntKind.i64 x.num, Value.slice none 0 0, Value.string x.nm, Value.int IntKind.i64 x.pl, q] 121) = wa at *
  have D0 := hid (M0.out.grow (grown_drew (grown_refl wa none)))
  obtain ⟨a0, a1, a2⟩ := M0.out.at
  obtain ⟨n0, n1, n2, n3, n4, n5, n6, n7⟩ := M0.out.cells
  go_region_law (go_simp; go_at_call 107; refine (step_any x (q) _ st D0.out.a (bnd_ne HX.out)).mono ?_; intro e w1 hh; rcases InP.cases hh (bnd_ne HX.out) with ⟨n, s1, hz, rfl, hM, hF⟩ | ⟨_, s1, hz, rfl, hA1, hF⟩; (case inl => exact ⟨rfl, by rw [stmtM_eq, bnd_err hz]; exact ⟨rfl, hM, D0.out.f.trans hF⟩⟩); have HZ1 := hid (And.intro hz trivial); have M1 := hid (D0.out.call hA1 hF); have HN1 : Hid (stmtT R k d x s1 ≠ .error none) := hid (by have h := HX.out; rw [stmtM_eq, bnd_ok hz] at h; exact h); clear a0 a1 a2 n0 n1 n2 n3 n4 n5 n6 n7 hz hA1 hF hh; obtain ⟨a0, a1, a2⟩ := M1.out.at; obtain ⟨n0, n1, n2, n3, n4, n5, n6, n7⟩ := M1.out.cells; rw [KD.out] at n0)
  all_goals
    have hT := stmtT_10 R k d x KD.out
    have HN2 : Hid (loopM R d x k s1 ≠ .error none) := hid (by have h := HN1.out; rw [hT] at h; exact h)
    go_wp2_with (go_at_call 150; refine Vl.calls_at (args := #[.pointer (some ⟨c, 0, none⟩), ndV x q]) (by unfold ndV; rw [KD.out]) ?_; refine (h150 d x q c nm _ s1 M1.out.a M1.out.k HN2.out).mono ?_; intro e w2 hh; rcases InP.cases hh HN2.out with ⟨n, s2, hz, rfl, hM, hF⟩ | ⟨v, s2, hz, rfl, hA2, hF⟩; (case inl => exact ⟨rfl, by rw [stmtM_eq, bnd_ok HZ1.out.1, hT, show (loopM R d x k) s1 = _ from hz]; exact ⟨rfl, hM, M1.out.f.trans hF⟩⟩); have HZ2 := hid (And.intro hT hz); have M2 := hid (M1.out.call hA2 hF); unfold bU; clear a0 a1 a2 n0 n1 n2 n3 n4 n5 n6 n7 hz hA2 hF hh hT)
    go_ret
    rw [stmtM_eq, bnd_ok HZ1.out.1, HZ2.out.1, show (loopM R d x k) s1 = _ from HZ2.out.2]
    exact ⟨rfl, M2.out.a, M2.out.f⟩
end Ip
end Go.Proofs.YtajoncmmdeahnaaGreatDoor
namespace Go.Proofs.YtajoncmmdeahnaaGreatDoor
open Go.RowKit
namespace Ip
set_option maxRecDepth 100000 in
set_option maxHeartbeats 8000000 in
theorem st_13 {X : Xm} {E : Env} {R : Rc} {k d c nm : Nat} (hE : MeC X E 151 vV R.ex) (x : Pd) (q : Value) (w : World) (st : Ms) (hA : CaA w X E d c nm st) (hk : KsP w (PX X) q x.kids) (hx : stmtM E R k d x st ≠ .error none) (hkd : x.kind = 13) :
    Calls Tryz.prog 108 #[.pointer (some ⟨c, 0, none⟩), ndV x q] w (InP bU X E d c nm w (stmtM E R k d x st)) := by
  have hM0 := Fm.start hA hk
  unfold ndC at hM0
  have M0 := hid hM0
  have HX := hid hx
  have KD := hid hkd
  have HE := hid hE
  clear hkd hE
  unfold ndV
  clear hM0 hx hA hk
  go_enter Tryz.func108, Tryz.ntmps108
  go_wp2_with fail
  generalize w.alloc (Obj.cells #[Value.int IntKind.i64 x.kind, Value.int IntKind.i64 x.ty, Value.string x.txt, Value.int IntKind.i64 x.num, Value.slice none 0 0, Value.string x.nm, Value.int IntKind.i64 x.pl, q] 121) = wa at *
  have D0 := hid (M0.out.grow (grown_drew (grown_refl wa none)))
  obtain ⟨a0, a1, a2⟩ := M0.out.at
  obtain ⟨n0, n1, n2, n3, n4, n5, n6, n7⟩ := M0.out.cells
  go_region_law (go_simp; go_at_call 107; refine (step_any x (q) _ st D0.out.a (bnd_ne HX.out)).mono ?_; intro e w1 hh; rcases InP.cases hh (bnd_ne HX.out) with ⟨n, s1, hz, rfl, hM, hF⟩ | ⟨_, s1, hz, rfl, hA1, hF⟩; (case inl => exact ⟨rfl, by rw [stmtM_eq, bnd_err hz]; exact ⟨rfl, hM, D0.out.f.trans hF⟩⟩); have HZ1 := hid (And.intro hz trivial); have M1 := hid (D0.out.call hA1 hF); have HN1 : Hid (stmtT R k d x s1 ≠ .error none) := hid (by have h := HX.out; rw [stmtM_eq, bnd_ok hz] at h; exact h); clear a0 a1 a2 n0 n1 n2 n3 n4 n5 n6 n7 hz hA1 hF hh; obtain ⟨a0, a1, a2⟩ := M1.out.at; obtain ⟨n0, n1, n2, n3, n4, n5, n6, n7⟩ := M1.out.cells; rw [KD.out] at n0)
  all_goals
    have hT := stmtT_13 R k d x KD.out
    have HT := hid hT
    have HN2 : Hid (stmtT R k d x s1 ≠ .error none) := HN1
    rw [hT] at HN2
    obtain ⟨y, hy, hky⟩ := kidM_ne (bnd_ne HN2.out)
    obtain ⟨g, cap, qy, hq, hi, hl1, hl2, hg, ⟨k0, k1, k2, k3, k4, k5, k6, k7⟩, hkk⟩ := M1.out.k.kid 0 y hy
    simp only [Nat.mul_zero, Nat.zero_add] at k0 k1 k2 k3 k4 k5 k6 k7
    have KY := hid hkk
    have HKY := hid (And.intro hky trivial)
    have HN3 : Hid (R.ex d y s1 ≠ .error none) := hid (by have h := bnd_ne HN2.out; rw [hky] at h; exact h)
    have HG := hid (cell_lt k0)
    subst hq
    clear hT hkk hky hy hg
    go_wp2_with (go_at_call 151; refine (HE.out d y qy c nm _ s1 M1.out.a KY.out HN3.out).mono ?_; intro e w2 hh; rcases InP.cases hh HN3.out with ⟨n, s9, hz, rfl, hM, hF⟩ | ⟨v, s2, hz, rfl, hA2, hF⟩; (case inl => exact ⟨rfl, by rw [stmtM_eq, bnd_ok HZ1.out.1, HT.out, HKY.out.1, bnd_err hz]; exact ⟨rfl, hM, M1.out.f.trans hF⟩⟩); have HZ2 := hid (And.intro hz trivial); have M2 := hid (M1.out.call hA2 hF); clear a0 a1 a2 n0 n1 n2 n3 n4 n5 n6 n7 hz hA2 hF hh k0 k1 k2 k3 k4 k5 k6 k7; unfold vV)
    go_ret
    rw [stmtM_eq, bnd_ok HZ1.out.1, HT.out, HKY.out.1, bnd_ok HZ2.out.1]
    exact ⟨rfl, M2.out.a, M2.out.f⟩
set_option maxRecDepth 100000 in
set_option maxHeartbeats 8000000 in
theorem st_12 {X : Xm} {E : Env} {R : Rc} {k d c nm : Nat} (hE : MeC X E 151 vV R.ex) (x : Pd) (q : Value) (w : World) (st : Ms) (hA : CaA w X E d c nm st) (hk : KsP w (PX X) q x.kids) (hx : stmtM E R k d x st ≠ .error none) (hkd : x.kind = 12) :
    Calls Tryz.prog 108 #[.pointer (some ⟨c, 0, none⟩), ndV x q] w (InP bU X E d c nm w (stmtM E R k d x st)) := by
  have hM0 := Fm.start hA hk
  unfold ndC at hM0
  have M0 := hid hM0
  have HX := hid hx
  have KD := hid hkd
  have HE := hid hE
  clear hkd hE
  unfold ndV
  clear hM0 hx hA hk
  go_enter Tryz.func108, Tryz.ntmps108
  go_wp2_with fail
  generalize w.alloc (Obj.cells #[Value.int IntKind.i64 x.kind, Value.int IntKind.i64 x.ty, Value.string x.txt, Value.int IntKind.i64 x.num, Value.slice none 0 0, Value.string x.nm, Value.int IntKind.i64 x.pl, q] 121) = wa at *
  have D0 := hid (M0.out.grow (grown_drew (grown_refl wa none)))
  obtain ⟨a0, a1, a2⟩ := M0.out.at
  obtain ⟨n0, n1, n2, n3, n4, n5, n6, n7⟩ := M0.out.cells
  go_region_law (go_simp; go_at_call 107; refine (step_any x (q) _ st D0.out.a (bnd_ne HX.out)).mono ?_; intro e w1 hh; rcases InP.cases hh (bnd_ne HX.out) with ⟨n, s1, hz, rfl, hM, hF⟩ | ⟨_, s1, hz, rfl, hA1, hF⟩; (case inl => exact ⟨rfl, by rw [stmtM_eq, bnd_err hz]; exact ⟨rfl, hM, D0.out.f.trans hF⟩⟩); have HZ1 := hid (And.intro hz trivial); have M1 := hid (D0.out.call hA1 hF); have HN1 : Hid (stmtT R k d x s1 ≠ .error none) := hid (by have h := HX.out; rw [stmtM_eq, bnd_ok hz] at h; exact h); clear a0 a1 a2 n0 n1 n2 n3 n4 n5 n6 n7 hz hA1 hF hh; obtain ⟨a0, a1, a2⟩ := M1.out.at; obtain ⟨n0, n1, n2, n3, n4, n5, n6, n7⟩ := M1.out.cells; rw [KD.out] at n0)
  all_goals
    have hT := stmtT_12 R k d x KD.out
    have HT := hid hT
    have HN2 : Hid (stmtT R k d x s1 ≠ .error none) := HN1
    rw [hT] at HN2
    obtain ⟨y, hy, hky⟩ := kidM_ne (bnd_ne HN2.out)
    obtain ⟨g, cap, qy, hq, hi, hl1, hl2, hg, ⟨k0, k1, k2, k3, k4, k5, k6, k7⟩, hkk⟩ := M1.out.k.kid 0 y hy
    simp only [Nat.mul_zero, Nat.zero_add] at k0 k1 k2 k3 k4 k5 k6 k7
    have KY := hid hkk
    have HKY := hid (And.intro hky trivial)
    have HN3 : Hid (R.ex d y s1 ≠ .error none) := hid (by have h := bnd_ne HN2.out; rw [hky] at h; exact h)
    have HG := hid (cell_lt k0)
    subst hq
    clear hT hkk hky hy hg
    go_wp2_with (go_at_call 151; refine (HE.out d y qy c nm _ s1 M1.out.a KY.out HN3.out).mono ?_; intro e w2 hh; rcases InP.cases hh HN3.out with ⟨n, s9, hz, rfl, hM, hF⟩ | ⟨v, s2, hz, rfl, hA2, hF⟩; (case inl => exact ⟨rfl, by rw [stmtM_eq, bnd_ok HZ1.out.1, HT.out, HKY.out.1, bnd_err hz]; exact ⟨rfl, hM, M1.out.f.trans hF⟩⟩); have HZ2 := hid (And.intro hz trivial); have M2 := hid (M1.out.call hA2 hF); clear a0 a1 a2 n0 n1 n2 n3 n4 n5 n6 n7 hz hA2 hF hh k0 k1 k2 k3 k4 k5 k6 k7; skip)
    cases ht : trueV v with
    | true =>
      have TC : Hid (∀ W, Calls Tryz.prog 153 #[vV v] W (Vl.GrP (.bool true) W)) := hid (fun W => by have h := trueC v W; rw [ht] at h; exact h)
      have HTT := hid ht
      clear ht
      go_wp2_with (go_at_call 153; refine (TC.out _).mono ?_; rintro e w3 ⟨rfl, hg⟩; have M3 := hid (M2.out.grow hg); clear hg)
      go_ret
      rw [stmtM_eq, bnd_ok HZ1.out.1, HT.out, HKY.out.1, bnd_ok HZ2.out.1, HTT.out]
      exact ⟨rfl, M3.out.a, M3.out.f⟩
    | false =>
      have TC : Hid (∀ W, Calls Tryz.prog 153 #[vV v] W (Vl.GrP (.bool false) W)) := hid (fun W => by have h := trueC v W; rw [ht] at h; exact h)
      have CN : Hid (∀ W, Calls Tryz.prog 148 #[.int .i64 (2 : Nat)] W fun e w' => e = .panicked (TrV 2) ∧ w' = W) := hid (fun W => need_trap 2 (by decide) W)
      have HTT := hid ht
      clear ht
      go_wp2_with (first
        | (go_at_call 153; refine (TC.out _).mono ?_; rintro e w3 ⟨rfl, hg⟩; have M3 := hid (M2.out.grow hg); clear hg)
        | (go_at_call 148; refine (CN.out _).mono ?_; rintro e w5 ⟨rfl, hw⟩; replace hw := hw.symm; subst hw))
      refine ⟨rfl, ?_⟩
      rw [stmtM_eq, bnd_ok HZ1.out.1, HT.out, HKY.out.1, bnd_ok HZ2.out.1, HTT.out]
      exact ⟨rfl, M3.out.a.ma, M3.out.f⟩
theorem Fm.answer {X : Xm} {E : Env} {d c nm : Nat} {w0 w : World} {x : Pd} {q : Value} {st : Ms} (h : Fm X E d c nm w0 x q w st) (v : V) : CaA ((w.setCell ⟨c, 3, none⟩ (.int .i64 v.1)).setCell ⟨c, 4, none⟩ (.int .i64 v.2)) X E d c nm { st with ans := v } ∧ FrM X c nm w0 ((w.setCell ⟨c, 3, none⟩ (.int .i64 v.1)).setCell ⟨c, 4, none⟩ (.int .i64 v.2)) := by
  have G : w.grownBy ((w.setCell ⟨c, 3, none⟩ (.int .i64 v.1)).setCell ⟨c, 4, none⟩ (.int .i64 v.2)) (some c) := grown_set (grown_set (grown_refl w (some c)) 3 _) 4 _
  have hC := h.a.ca
  have hM := h.a.ma.keptR G hC.c
  have B2 : Blk ((w.setCell ⟨c, 3, none⟩ (.int .i64 v.1)).setCell ⟨c, 4, none⟩ (.int .i64 v.2)) c 129 #[.pointer (some ⟨X.m, 0, none⟩), .int .i64 d, .map (some nm), .int .i64 v.1, .int .i64 v.2] := by simpa using (hC.blk.set 3 (.int .i64 v.1)).set 4 (.int .i64 v.2)
  exact ⟨⟨⟨hM.ok, hM.hi, hM.blk, hM.bod, hM.glo, hM.vis, hM.le, hM.fu⟩, ⟨B2, hC.nam.kept G (fun e => hC.ne (Option.some.inj e).symm), hC.c, hC.nm, hC.d⟩⟩, h.f.trans (FrM.of G (fun r e => by injection e with e; exact Or.inr (Or.inr (Or.inr (Or.inl e.symm)))))⟩
set_option maxRecDepth 100000 in
set_option maxHeartbeats 8000000 in
theorem st_11 {X : Xm} {E : Env} {R : Rc} {k d c nm : Nat} (hE : MeC X E 151 vV R.ex) (x : Pd) (q : Value) (w : World) (st : Ms) (hA : CaA w X E d c nm st) (hk : KsP w (PX X) q x.kids) (hx : stmtM E R k d x st ≠ .error none) (hkd : x.kind = 11) :
    Calls Tryz.prog 108 #[.pointer (some ⟨c, 0, none⟩), ndV x q] w (InP bU X E d c nm w (stmtM E R k d x st)) := by
  have hM0 := Fm.start hA hk
  unfold ndC at hM0
  have M0 := hid hM0
  have HX := hid hx
  have KD := hid hkd
  have HE := hid hE
  clear hkd hE
  unfold ndV
  clear hM0 hx hA hk
  go_enter Tryz.func108, Tryz.ntmps108
  go_wp2_with fail
  generalize w.alloc (Obj.cells #[Value.int IntKind.i64 x.kind, Value.int IntKind.i64 x.ty, Value.string x.txt, Value.int IntKind.i64 x.num, Value.slice none 0 0, Value.string x.nm, Value.int IntKind.i64 x.pl, q] 121) = wa at *
  have D0 := hid (M0.out.grow (grown_drew (grown_refl wa none)))
  obtain ⟨a0, a1, a2⟩ := M0.out.at
  obtain ⟨n0, n1, n2, n3, n4, n5, n6, n7⟩ := M0.out.cells
  go_region_law (go_simp; go_at_call 107; refine (step_any x (q) _ st D0.out.a (bnd_ne HX.out)).mono ?_; intro e w1 hh; rcases InP.cases hh (bnd_ne HX.out) with ⟨n, s1, hz, rfl, hM, hF⟩ | ⟨_, s1, hz, rfl, hA1, hF⟩; (case inl => exact ⟨rfl, by rw [stmtM_eq, bnd_err hz]; exact ⟨rfl, hM, D0.out.f.trans hF⟩⟩); have HZ1 := hid (And.intro hz trivial); have M1 := hid (D0.out.call hA1 hF); have HN1 : Hid (stmtT R k d x s1 ≠ .error none) := hid (by have h := HX.out; rw [stmtM_eq, bnd_ok hz] at h; exact h); clear a0 a1 a2 n0 n1 n2 n3 n4 n5 n6 n7 hz hA1 hF hh; obtain ⟨a0, a1, a2⟩ := M1.out.at; obtain ⟨n0, n1, n2, n3, n4, n5, n6, n7⟩ := M1.out.cells; rw [KD.out] at n0)
  all_goals
    have hT := stmtT_11 R k d x KD.out
    have HT := hid hT
    have HN2 : Hid (stmtT R k d x s1 ≠ .error none) := HN1
    rw [hT] at HN2
    obtain ⟨y, hy, hky⟩ := kidM_ne (bnd_ne HN2.out)
    obtain ⟨g, cap, qy, hq, hi, hl1, hl2, hg, ⟨k0, k1, k2, k3, k4, k5, k6, k7⟩, hkk⟩ := M1.out.k.kid 0 y hy
    simp only [Nat.mul_zero, Nat.zero_add] at k0 k1 k2 k3 k4 k5 k6 k7
    have KY := hid hkk
    have HKY := hid (And.intro hky trivial)
    have HN3 : Hid (R.ex d y s1 ≠ .error none) := hid (by have h := bnd_ne HN2.out; rw [hky] at h; exact h)
    have HG := hid (cell_lt k0)
    subst hq
    clear hT hkk hky hy hg
    go_wp2_with (go_at_call 151; refine (HE.out d y qy c nm _ s1 M1.out.a KY.out HN3.out).mono ?_; intro e w2 hh; rcases InP.cases hh HN3.out with ⟨n, s9, hz, rfl, hM, hF⟩ | ⟨v, s2, hz, rfl, hA2, hF⟩; (case inl => exact ⟨rfl, by rw [stmtM_eq, bnd_ok HZ1.out.1, HT.out, HKY.out.1, bnd_err hz]; exact ⟨rfl, hM, M1.out.f.trans hF⟩⟩); have HZ2 := hid (And.intro hz trivial); have M2 := hid (M1.out.call hA2 hF); clear a0 a1 a2 n0 n1 n2 n3 n4 n5 n6 n7 hz hA2 hF hh k0 k1 k2 k3 k4 k5 k6 k7; have c3 := M2.out.a.ca.blk.cell 3; have c4 := M2.out.a.ca.blk.cell 4; have f3 := M2.out.a.ca.blk.frozen 3; have f4 := M2.out.a.ca.blk.frozen 4; simp at c3 c4; unfold vV)
    go_ret
    rw [stmtM_eq, bnd_ok HZ1.out.1, HT.out, HKY.out.1, bnd_ok HZ2.out.1]
    exact ⟨rfl, M2.out.answer v⟩
end Ip
end Go.Proofs.YtajoncmmdeahnaaGreatDoor
namespace Go.Proofs.YtajoncmmdeahnaaGreatDoor
open Go.RowKit
namespace Ip
theorem defineM_ne {s : ByteArray} {v : V} {st : Ms} (h : defineM s v st ≠ .error none) : ¬ 1000000 < s.size ∧ st.wr < 1000000 ∧ defineM s v st = .ok ((), { st with nam := updV st.nam s v, wr := st.wr + 1 }) := by
  unfold defineM at h ⊢
  by_cases h1 : 1000000 < s.size ∨ 1000000 ≤ st.wr
  · rw [if_pos h1] at h
    exact absurd rfl h
  · exact ⟨fun h2 => h1 (Or.inl h2), Nat.lt_of_not_le (fun h2 => h1 (Or.inr h2)), if_neg h1⟩
theorem CaA.define {X : Xm} {E : Env} {d c nm : Nat} {w : World} {st : Ms} (hA : CaA w X E d c nm st) {s : ByteArray} {v : V} (h : defineM s v st ≠ .error none) : ∃ w', (Instr.mapUpdate 78 (.map (some nm)) (.string s) (.agg #[.int .i64 v.1, .int .i64 v.2])).run Tryz.prog w = .ok () w' ∧ CaA w' X E d c nm { st with nam := updV st.nam s v, wr := st.wr + 1 } ∧ FrM X c nm w w' := by
  obtain ⟨h1, h2, h3⟩ := defineM_ne h
  obtain ⟨w', hr, hm, hg⟩ := hA.ca.nam.store Tryz.underlying78 (by unfold maxLen; omega) s (max1 h1) (vV v)
  exact ⟨w', hr, hA.setNam hg hm⟩
set_option maxRecDepth 100000 in
set_option maxHeartbeats 8000000 in
theorem st_7 {X : Xm} {E : Env} {R : Rc} {k d c nm : Nat} (hE : MeC X E 151 vV R.ex) (x : Pd) (q : Value) (w : World) (st : Ms) (hA : CaA w X E d c nm st) (hk : KsP w (PX X) q x.kids) (hx : stmtM E R k d x st ≠ .error none) (hkd : x.kind = 7) :
    Calls Tryz.prog 108 #[.pointer (some ⟨c, 0, none⟩), ndV x q] w (InP bU X E d c nm w (stmtM E R k d x st)) := by
  have hM0 := Fm.start hA hk
  unfold ndC at hM0
  have M0 := hid hM0
  have HX := hid hx
  have KD := hid hkd
  have HE := hid hE
  clear hkd hE
  unfold ndV
  clear hM0 hx hA hk
  go_enter Tryz.func108, Tryz.ntmps108
  go_wp2_with fail
  generalize w.alloc (Obj.cells #[Value.int IntKind.i64 x.kind, Value.int IntKind.i64 x.ty, Value.string x.txt, Value.int IntKind.i64 x.num, Value.slice none 0 0, Value.string x.nm, Value.int IntKind.i64 x.pl, q] 121) = wa at *
  have D0 := hid (M0.out.grow (grown_drew (grown_refl wa none)))
  obtain ⟨a0, a1, a2⟩ := M0.out.at
  obtain ⟨n0, n1, n2, n3, n4, n5, n6, n7⟩ := M0.out.cells
  go_region_law (go_simp; go_at_call 107; refine (step_any x (q) _ st D0.out.a (bnd_ne HX.out)).mono ?_; intro e w1 hh; rcases InP.cases hh (bnd_ne HX.out) with ⟨n, s1, hz, rfl, hM, hF⟩ | ⟨_, s1, hz, rfl, hA1, hF⟩; (case inl => exact ⟨rfl, by rw [stmtM_eq, bnd_err hz]; exact ⟨rfl, hM, D0.out.f.trans hF⟩⟩); have HZ1 := hid (And.intro hz trivial); have M1 := hid (D0.out.call hA1 hF); have HN1 : Hid (stmtT R k d x s1 ≠ .error none) := hid (by have h := HX.out; rw [stmtM_eq, bnd_ok hz] at h; exact h); clear a0 a1 a2 n0 n1 n2 n3 n4 n5 n6 n7 hz hA1 hF hh; obtain ⟨a0, a1, a2⟩ := M1.out.at; obtain ⟨n0, n1, n2, n3, n4, n5, n6, n7⟩ := M1.out.cells; rw [KD.out] at n0)
  all_goals
    have hT := stmtT_7 R k d x KD.out
    have HT := hid hT
    have HN2 : Hid (stmtT R k d x s1 ≠ .error none) := HN1
    rw [hT] at HN2
    obtain ⟨y, hy, hky⟩ := kidM_ne (bnd_ne HN2.out)
    obtain ⟨g, cap, qy, hq, hi, hl1, hl2, hg, ⟨k0, k1, k2, k3, k4, k5, k6, k7⟩, hkk⟩ := M1.out.k.kid 0 y hy
    simp only [Nat.mul_zero, Nat.zero_add] at k0 k1 k2 k3 k4 k5 k6 k7
    have KY := hid hkk
    have HKY := hid (And.intro hky trivial)
    have HN3 : Hid (R.ex d y s1 ≠ .error none) := hid (by have h := bnd_ne HN2.out; rw [hky] at h; exact h)
    have HG := hid (cell_lt k0)
    subst hq
    clear hT hkk hky hy hg
    have MD := hid (M1.out.grow (grown_drew (grown_refl w1 none)))
    have KDD := hid (KsP.fr KY.out (Kp.of_none _ (grown_drew (grown_refl w1 none))))
    clear KY
    go_wp2_with fail
    go_region_law (go_simp; go_at_call 151; refine (HE.out d y qy c nm _ s1 MD.out.a KDD.out HN3.out).mono ?_; intro e w2 hh; rcases InP.cases hh HN3.out with ⟨n, s9, hz, rfl, hM, hF⟩ | ⟨v, s2, hz, rfl, hA2, hF⟩; (case inl => exact ⟨rfl, by rw [stmtM_eq, bnd_ok HZ1.out.1, HT.out, HKY.out.1, bnd_err hz]; exact ⟨rfl, hM, MD.out.f.trans hF⟩⟩); have HZ2 := hid (And.intro hz trivial); have M2 := hid (MD.out.call hA2 hF); clear a0 a1 a2 n0 n1 n2 n3 n4 n5 n6 n7 hz hA2 hF hh k0 k1 k2 k3 k4 k5 k6 k7; have a2 := M2.out.at.2.2; have n2 := M2.out.cells.2.2.1; have HN4 : Hid (defineM x.txt v s2 ≠ .error none) := hid (bnd_ne (by have h := HN2.out; rw [HKY.out.1, bnd_ok HZ2.out.1] at h; exact h)); obtain ⟨w3, hrun, hA3, hF3⟩ := M2.out.a.define HN4.out; have RS := hid (And.intro hA3 (M2.out.f.trans hF3)); have HD := hid (defineM_ne HN4.out).2.2; clear hA3 hF3; unfold vV)
    all_goals
      (try go_wp2_with fail)
      go_ret
      rw [stmtM_eq, bnd_ok HZ1.out.1, HT.out, HKY.out.1, bnd_ok HZ2.out.1, bnd_ok HD.out]
      exact ⟨rfl, RS.out⟩
set_option maxRecDepth 100000 in
set_option maxHeartbeats 8000000 in
theorem st_8 {X : Xm} {E : Env} {R : Rc} {k d c nm : Nat} (hE : MeC X E 151 vV R.ex) (x : Pd) (q : Value) (w : World) (st : Ms) (hA : CaA w X E d c nm st) (hk : KsP w (PX X) q x.kids) (hx : stmtM E R k d x st ≠ .error none) (hkd : x.kind = 8) :
    Calls Tryz.prog 108 #[.pointer (some ⟨c, 0, none⟩), ndV x q] w (InP bU X E d c nm w (stmtM E R k d x st)) := by
  have hM0 := Fm.start hA hk
  unfold ndC at hM0
  have M0 := hid hM0
  have HX := hid hx
  have KD := hid hkd
  have HE := hid hE
  clear hkd hE
  unfold ndV
  clear hM0 hx hA hk
  go_enter Tryz.func108, Tryz.ntmps108
  go_wp2_with fail
  generalize w.alloc (Obj.cells #[Value.int IntKind.i64 x.kind, Value.int IntKind.i64 x.ty, Value.string x.txt, Value.int IntKind.i64 x.num, Value.slice none 0 0, Value.string x.nm, Value.int IntKind.i64 x.pl, q] 121) = wa at *
  have D0 := hid (M0.out.grow (grown_drew (grown_refl wa none)))
  obtain ⟨a0, a1, a2⟩ := M0.out.at
  obtain ⟨n0, n1, n2, n3, n4, n5, n6, n7⟩ := M0.out.cells
  go_region_law (go_simp; go_at_call 107; refine (step_any x (q) _ st D0.out.a (bnd_ne HX.out)).mono ?_; intro e w1 hh; rcases InP.cases hh (bnd_ne HX.out) with ⟨n, s1, hz, rfl, hM, hF⟩ | ⟨_, s1, hz, rfl, hA1, hF⟩; (case inl => exact ⟨rfl, by rw [stmtM_eq, bnd_err hz]; exact ⟨rfl, hM, D0.out.f.trans hF⟩⟩); have HZ1 := hid (And.intro hz trivial); have M1 := hid (D0.out.call hA1 hF); have HN1 : Hid (stmtT R k d x s1 ≠ .error none) := hid (by have h := HX.out; rw [stmtM_eq, bnd_ok hz] at h; exact h); clear a0 a1 a2 n0 n1 n2 n3 n4 n5 n6 n7 hz hA1 hF hh; obtain ⟨a0, a1, a2⟩ := M1.out.at; obtain ⟨n0, n1, n2, n3, n4, n5, n6, n7⟩ := M1.out.cells; rw [KD.out] at n0)
  all_goals
    have hT := stmtT_8 R k d x KD.out
    have HT := hid hT
    have HN2 : Hid (stmtT R k d x s1 ≠ .error none) := HN1
    rw [hT] at HN2
    obtain ⟨y, hy, hky⟩ := kidM_ne (bnd_ne HN2.out)
    obtain ⟨g, cap, qy, hq, hi, hl1, hl2, hg, ⟨k0, k1, k2, k3, k4, k5, k6, k7⟩, hkk⟩ := M1.out.k.kid 0 y hy
    simp only [Nat.mul_zero, Nat.zero_add] at k0 k1 k2 k3 k4 k5 k6 k7
    have KY := hid hkk
    have HKY := hid (And.intro hky trivial)
    have HN3 : Hid (R.ex d y s1 ≠ .error none) := hid (by have h := bnd_ne HN2.out; rw [hky] at h; exact h)
    have HG := hid (cell_lt k0)
    subst hq
    clear hT hkk hky hy hg
    have MD := hid (M1.out.grow (grown_drew (grown_refl w1 none)))
    have KDD := hid (KsP.fr KY.out (Kp.of_none _ (grown_drew (grown_refl w1 none))))
    clear KY
    go_wp2_with fail
    go_region_law (first
      | (go_simp; go_at_call 151; refine (HE.out d y qy c nm _ s1 MD.out.a KDD.out HN3.out).mono ?_; intro e w2 hh; rcases InP.cases hh HN3.out with ⟨n, s9, hz, rfl, hM, hF⟩ | ⟨v, s2, hz, rfl, hA2, hF⟩; (case inl => exact ⟨rfl, by rw [stmtM_eq, bnd_ok HZ1.out.1, HT.out, HKY.out.1, bnd_err hz]; exact ⟨rfl, hM, MD.out.f.trans hF⟩⟩); have HZ2 := hid (And.intro hz trivial); have M2 := hid (MD.out.call hA2 hF); clear a0 a1 a2 n0 n1 n2 n3 n4 n5 n6 n7 hz hA2 hF hh k0 k1 k2 k3 k4 k5 k6 k7; have n2 := M2.out.cells.2.2.1; have HN4 : Hid (assignM x.txt v s2 ≠ .error none) := hid (bnd_ne (by have h := HN2.out; rw [HKY.out.1, bnd_ok HZ2.out.1] at h; exact h)))
      | (go_simp; go_at_call 152; refine (assign_any x.txt v _ s2 M2.out.a HN4.out).mono ?_; intro e w3 hh; rcases InP.cases hh HN4.out with ⟨n, s9, hz, rfl, hM, hF⟩ | ⟨_, s3, hz, rfl, hA3, hF⟩; (case inl => exact ⟨rfl, by rw [stmtM_eq, bnd_ok HZ1.out.1, HT.out, HKY.out.1, bnd_ok HZ2.out.1, bnd_err hz]; exact ⟨rfl, hM, M2.out.f.trans hF⟩⟩); have RS := hid (And.intro hA3 (M2.out.f.trans hF)); have HD := hid (And.intro hz trivial); clear hz hA3 hF hh))
    all_goals
      (try go_wp2_with fail)
      go_ret
      rw [stmtM_eq, bnd_ok HZ1.out.1, HT.out, HKY.out.1, bnd_ok HZ2.out.1, bnd_ok HD.out.1]
      exact ⟨rfl, RS.out⟩
theorem stmtT_o (R : Rc) (k d : Nat) (n : Pd) (h : ¬ (n.kind = 9 ∨ n.kind = 10 ∨ n.kind = 11 ∨ n.kind = 7 ∨ n.kind = 8 ∨ n.kind = 12 ∨ n.kind = 13)) : stmtT R k d n = pure false := by
  unfold stmtT
  rw [if_neg (by omega), if_neg (by omega), if_neg (by omega), if_neg (by omega), if_neg (by omega), if_neg (by omega), if_neg (by omega)]
set_option maxRecDepth 100000 in
set_option maxHeartbeats 8000000 in
theorem st_o {X : Xm} {E : Env} {R : Rc} {k d c nm : Nat} (x : Pd) (q : Value) (w : World) (st : Ms) (hA : CaA w X E d c nm st) (hk : KsP w (PX X) q x.kids) (hx : stmtM E R k d x st ≠ .error none) (hkd : ¬ (x.kind = 9 ∨ x.kind = 10 ∨ x.kind = 11 ∨ x.kind = 7 ∨ x.kind = 8 ∨ x.kind = 12 ∨ x.kind = 13)) :
    Calls Tryz.prog 108 #[.pointer (some ⟨c, 0, none⟩), ndV x q] w (InP bU X E d c nm w (stmtM E R k d x st)) := by
  have hM0 := Fm.start hA hk
  unfold ndC at hM0
  have M0 := hid hM0
  have HX := hid hx
  have KN := hid hkd
  have KE : Hid ((x.kind == 9) = false ∧ (x.kind == 10) = false ∧ (x.kind == 11) = false ∧ (x.kind == 7) = false ∧ (x.kind == 8) = false ∧ (x.kind == 12) = false ∧ (x.kind == 13) = false) := hid (by simp only [beq_eq_false_iff_ne]; omega)
  clear hkd
  unfold ndV
  clear hM0 hx hA hk
  go_enter Tryz.func108, Tryz.ntmps108
  go_wp2_with fail
  generalize w.alloc (Obj.cells #[Value.int IntKind.i64 x.kind, Value.int IntKind.i64 x.ty, Value.string x.txt, Value.int IntKind.i64 x.num, Value.slice none 0 0, Value.string x.nm, Value.int IntKind.i64 x.pl, q] 121) = wa at *
  have D0 := hid (M0.out.grow (grown_drew (grown_refl wa none)))
  obtain ⟨a0, a1, a2⟩ := M0.out.at
  obtain ⟨n0, n1, n2, n3, n4, n5, n6, n7⟩ := M0.out.cells
  go_region_law (go_simp; go_at_call 107; refine (step_any x (q) _ st D0.out.a (bnd_ne HX.out)).mono ?_; intro e w1 hh; rcases InP.cases hh (bnd_ne HX.out) with ⟨n, s1, hz, rfl, hM, hF⟩ | ⟨_, s1, hz, rfl, hA1, hF⟩; (case inl => exact ⟨rfl, by rw [stmtM_eq, bnd_err hz]; exact ⟨rfl, hM, D0.out.f.trans hF⟩⟩); have HZ1 := hid (And.intro hz trivial); have M1 := hid (D0.out.call hA1 hF); have HN1 : Hid (stmtT R k d x s1 ≠ .error none) := hid (by have h := HX.out; rw [stmtM_eq, bnd_ok hz] at h; exact h); clear a0 a1 a2 n0 n1 n2 n3 n4 n5 n6 n7 hz hA1 hF hh; obtain ⟨a0, a1, a2⟩ := M1.out.at; obtain ⟨n0, n1, n2, n3, n4, n5, n6, n7⟩ := M1.out.cells)
  all_goals
    have HT := hid (stmtT_o R k d x KN.out)
    obtain ⟨e1, e2, e3, e4, e5, e6, e7⟩ := KE.out
    go_wp2
    go_ret
    rw [stmtM_eq, bnd_ok HZ1.out.1, HT.out]
    exact ⟨rfl, M1.out.a, M1.out.f⟩
theorem statement_any {X : Xm} {E : Env} {R : Rc} {k : Nat} (hE : MeC X E 151 vV R.ex) (hB : MeC X E 61 bU R.bl) : MeC X E 108 bU (stmtM E R k) := by
  intro d x q c nm w st hA hk hx
  by_cases h9 : x.kind = 9
  · exact st_9 (branch_any hE hB) x q w st hA hk hx h9
  by_cases h10 : x.kind = 10
  · exact st_10 (loop_any hE hB) x q w st hA hk hx h10
  by_cases h11 : x.kind = 11
  · exact st_11 hE x q w st hA hk hx h11
  by_cases h7 : x.kind = 7
  · exact st_7 hE x q w st hA hk hx h7
  by_cases h8 : x.kind = 8
  · exact st_8 hE x q w st hA hk hx h8
  by_cases h12 : x.kind = 12
  · exact st_12 hE x q w st hA hk hx h12
  by_cases h13 : x.kind = 13
  · exact st_13 hE x q w st hA hk hx h13
  exact st_o x q w st hA hk hx (by omega)
end Ip
end Go.Proofs.YtajoncmmdeahnaaGreatDoor
