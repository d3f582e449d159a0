/-
  The parser: line. append of two nodes; the parser's depth, taken back. The parser: signed.
-/
import Derived.Test.YtajoncmmdeahnaaGreatDoorPi
import Derived.Deep.RegionLaw
namespace Go.Proofs.YtajoncmmdeahnaaGreatDoor
open Go.RowKit
namespace Pm
set_option maxRecDepth 100000 in
set_option maxHeartbeats 4000000 in
theorem line_any {b tg cp : Nat} {all : List Tk} {p : Ps} (R : Rc) (kind : Int) (w : World) (hP : PsA w b tg cp all p) (hx : lineP R kind p ≠ .error none)
    (h231 : ∀ l q W, PsA W b tg cp all q → R.expr l q ≠ .error none → Calls Tryz.prog 231 #[.pointer (some ⟨b, 0, none⟩), .int .i64 l] W (PrP (nV W.heap.size) b tg cp all W (R.expr l q))) :
    Calls Tryz.prog 199 #[.pointer (some ⟨b, 0, none⟩), .int .i64 kind] w (PrP (nV w.heap.size) b tg cp all w (lineP R kind p)) := by
  have hbl := hP.lt
  have htl := hP.tgl
  have X0 := hid (Blk.new w 27 #[.int .i64 0, .int .i64 0, .string ⟨#[]⟩, .int .i64 0, .slice none 0 0])
  have HX := hid hx
  have G0 := hid (grown_refl w (some b))
  have P0 := hid hP
  have C43 : Hid (∀ q W, PsA W b tg cp all q → passP q ≠ .error none → Calls Tryz.prog 43 #[.pointer (some ⟨b, 0, none⟩)] W (PrP uV b tg cp all W (passP q))) := fun q W hW h => pass_any W hW h
  have C231 : Hid (∀ q W, PsA W b tg cp all q → R.expr 1 q ≠ .error none → Calls Tryz.prog 231 #[.pointer (some ⟨b, 0, none⟩), .int .i64 1] W (PrP (nV W.heap.size) b tg cp all W (R.expr 1 q))) := fun q W hW h => h231 1 q W hW h
  have C233 : Hid (∀ q base0 k s kid ps cs W, PsA W b tg cp all q → endedP (fun n => .mk k 0 s 0 [n]) kid q ≠ .error none → KsV W (fun g => base0 ≤ g ∧ g < W.heap.size) (.slice ps kid.kids.length cs) kid.kids → b < base0 → base0 ≤ W.heap.size → Calls Tryz.prog 233 #[.pointer (some ⟨b, 0, none⟩), .agg #[.int .i64 k, .int .i64 0, .string s, .int .i64 0, .slice none 0 0], .agg #[.int .i64 kid.kind, .int .i64 kid.ty, .string kid.txt, .int .i64 kid.num, .slice ps kid.kids.length cs]] W (PrP (nV base0) b tg cp all W (endedP (fun n => .mk k 0 s 0 [n]) kid q))) := fun q base0 k s kid ps cs W hW h hk hb h1 => ended_any base0 hb k s kid ps cs W hW h hk h1
  clear hx hP
  go_enter Tryz.func199, Tryz.ntmps199
  go_wp2_with (first
    | (go_at_call 43; refine (C43.out p _ (P0.out.loc (n := w.heap.size) (by repeat (first | exact Loc.refl _ _ | refine Loc.alloc ?_ _ | refine Loc.quiet ?_ (by assumption))) hbl htl) (by have h := HX.out; unfold lineP at h; exact bnd_ne h)).mono ?_; intro e w1 hh0; rcases PrP.cases hh0 (by have h := HX.out; unfold lineP at h; exact bnd_ne h) with hh | hh; (case inl => obtain ⟨at_, n, hz, rfl, g⟩ := hh; exact ⟨rfl, by unfold lineP; rw [bnd_err hz]; exact ⟨rfl, grown_bb (Loc.grown G0.out (by repeat (first | exact Loc.refl _ _ | refine Loc.alloc ?_ _ | refine Loc.quiet ?_ (by assumption)))) g⟩⟩); obtain ⟨a1, q1, v1, hz, rfl, hv, pp, g⟩ := hh; have hv' : v1 = .tuple #[] := hv; subst hv'; have HZ1 := hid (And.intro hz trivial); have P1 := hid pp; have G1 := hid (grown_bb (Loc.grown G0.out (by repeat (first | exact Loc.refl _ _ | refine Loc.alloc ?_ _ | refine Loc.quiet ?_ (by assumption)))) g); have X1 := hid (X0.out.kept g (lt_nb hbl _ (by omega))); clear hz pp g hh0)
    | (go_at_call 231; refine (C231.out q1 _ P1.out (by have h := HX.out; unfold lineP at h; rw [bnd_ok HZ1.out.1] at h; exact bnd_ne h)).mono ?_; intro e w2 hh0; rcases PrP.cases hh0 (by have h := HX.out; unfold lineP at h; rw [bnd_ok HZ1.out.1] at h; exact bnd_ne h) with hh | hh; (case inl => obtain ⟨at_, n, hz, rfl, g⟩ := hh; exact ⟨rfl, by unfold lineP; rw [bnd_ok HZ1.out.1, bnd_err hz]; exact ⟨rfl, grown_bb G1.out g⟩⟩); obtain ⟨a2, q2, v2, hz, rfl, hv, pp, g⟩ := hh; obtain ⟨qs2, rfl, hk⟩ := hv; obtain ⟨ps2, cs2, rfl, _, _, _⟩ := hk.form; have HZ2 := hid (And.intro hz trivial); have P2 := hid pp; have G2 := hid (grown_bb G1.out g); have s12 := g.size; have K2 := hid (hk.mono (Q := fun g => w1.heap.size ≤ g ∧ g < w2.heap.size) (fun _ h1 h2 => ⟨h1, h2⟩)); have X2 := hid (X1.out.kept g (lt_nb hbl _ (by omega))); clear hz pp g hh0)
    | (go_at_call 233; refine (C233.out q2 w1.heap.size kind ⟨#[]⟩ a2 ps2 cs2 _ P2.out (by have h := HX.out; unfold lineP at h; rw [bnd_ok HZ1.out.1, bnd_ok HZ2.out.1] at h; exact h) K2.out (by have := G1.out.size; omega) (by omega)).mono ?_; intro e w3 hh0; rcases PrP.cases hh0 (by have h := HX.out; unfold lineP at h; rw [bnd_ok HZ1.out.1, bnd_ok HZ2.out.1] at h; exact h) with hh | hh; (case inl => obtain ⟨at_, n, hz, rfl, g⟩ := hh; exact ⟨rfl, by unfold lineP; rw [bnd_ok HZ1.out.1, bnd_ok HZ2.out.1, hz]; exact ⟨rfl, grown_bb G2.out g⟩⟩); obtain ⟨a3, q3, v3, hz, rfl, hv, pp, g⟩ := hh; obtain ⟨qs3, rfl, hk⟩ := hv; obtain ⟨ps3, cs3, rfl, _, _, _⟩ := hk.form; have HZ3 := hid (And.intro hz trivial); have P3 := hid pp; have G3 := hid (grown_bb G2.out g); have K3 := hid hk; have X3 := hid (X2.out.kept g (lt_nb hbl _ (by omega))); clear hz pp g hh0)
    | (refine store_nd (.tmp 4) (.tmp 12) rfl rfl w.heap.size X3.out rfl rfl ?_; intro w8 b8 g8; have Z8 := hid b8; have G8 := hid (grown_to G3.out g8 (Nat.le_refl _)); have P8 := hid (P3.out.keptG g8 (by omega) (by omega)); have K8 := hid (K3.out.keptB g8 (by have := G1.out.size; have := X1.out.lt; omega)); clear b8 g8))
  refine bodyPost_ret (results_nd rfl _ _ w.heap.size rfl Z8.out) rfl ?_
  unfold lineP
  rw [bnd_ok HZ1.out.1, bnd_ok HZ2.out.1, HZ3.out.1]
  exact ⟨_, rfl, ⟨_, rfl, K8.out.mono (fun g hg _ => by have := G1.out.size; omega)⟩, P8.out, G8.out⟩
end Pm
end Go.Proofs.YtajoncmmdeahnaaGreatDoor
namespace Go.Proofs.YtajoncmmdeahnaaGreatDoor
open Go.RowKit
section
variable {X : Nat → Prop}
def five (y : Nd) (q : Value) : List Value := [.int .i64 y.kind, .int .i64 y.ty, .string y.txt, .int .i64 y.num, q]
def NdC2 (w : World) (ad : Addr) (y z : Nd) (q r : Value) : Prop := ∀ j u, (five y q ++ five z r)[j]? = some u → w.cell? (ad.add j) = some u
theorem NdC2.new (w : World) (e : TypeId) (y z : Nd) (q r : Value) : NdC2 (w.alloc (.cells #[.int .i64 y.kind, .int .i64 y.ty, .string y.txt, .int .i64 y.num, q, .int .i64 z.kind, .int .i64 z.ty, .string z.txt, .int .i64 z.num, r] e)) ⟨w.heap.size, 0, none⟩ y z q r := fun j u h => by
  rw [addr_at, Nat.zero_add, (Blk.new w e _).cell]
  simpa [five] using h
theorem append_runX2 (t e ty : TypeId) (ht : Tryz.prog.underlying t = some (.slice e)) (hI : (Tryz.prog.info? e).map (fun i => (i.zero, i.size, i.bytes)) = some (some zNd, 5, 64)) (base : Nat) (v : Value) (ks : List Nd) (y z : Nd) (q r : Value) (ad : Addr) (c : Nat) (w : World)
    (hb : Kx X w base e v ks) (hc : NdC2 w ad y z q r) (hq : KsV w (fun b => X b ∧ some b ≠ v.ownBlock) q y.kids) (hr : KsV w (fun b => X b ∧ some b ≠ v.ownBlock) r z.kids) (hl : ks.length < 100000) (hbase : base ≤ w.heap.size) :
    ∃ v' w', (Builtin.append_ #[t, t] ty #[v, .slice (some ad) 2 c]).run Tryz.prog w = .ok v' w' ∧ Kx X w' base e v' (ks ++ [y] ++ [z]) ∧ w.grownBy w' v.ownBlock := by
  obtain ⟨i5, hi, hz0, hz1, hz2⟩ := info_parts hI
  obtain ⟨cs, h1, h2, _⟩ := hb
  obtain ⟨v', w', hrun, h3, h4, h5⟩ := append_where5 (P := Tryz.prog) base t ty e i5 zNd 64 ht hi hz0 hz1 hz2 rfl v ks.length cs h1 ad 2 c (five y q ++ five z r) (by decide) rfl hc (fun u hu => by
    simp only [five, List.cons_append, List.nil_append, List.mem_cons, List.not_mem_nil, or_false] at hu
    obtain ⟨p, cap, eq, _⟩ := hq.form
    obtain ⟨p2, cap2, eq2, _⟩ := hr.form
    rcases hu with rfl | rfl | rfl | rfl | rfl | rfl | rfl | rfl | rfl | rfl
    · rfl
    · rfl
    · rfl
    · rfl
    · rw [eq]; rfl
    · rfl
    · rfl
    · rfl
    · rfl
    · rw [eq2]; rfl) (by omega) (by decide) hbase
  have hK : Kp w w' (fun b => X b ∧ some b ≠ v.ownBlock) := Kp.of_grown h4 (fun b hb => hb.2)
  have hm : ∀ b, (X b ∧ some b ≠ v.ownBlock) → b < w.heap.size → (X b ∧ some b ≠ v'.ownBlock) := fun b hb hlt => ⟨hb.1, fun e => by
    rcases h5 with h5 | h5
    · exact hb.2 (by rw [e, h5])
    · rw [h5] at e
      have := Option.some.inj e
      omega⟩
  refine ⟨v', w', hrun, ⟨cs ++ (five y q ++ five z r), ?_, ?_, fun e => ?_⟩, h4⟩
  · have e2 : (ks ++ [y] ++ [z]).length = ks.length + 2 := by simp
    rw [e2]; exact h3
  · rw [← List.append_assoc]
    exact CellsN.snoc (hr.keptP hK hm) (CellsN.snoc (hq.keptP hK hm) (h2.keptP hK hm))
  · simp at e
theorem step_ndX2 {ops : Array Oper} {o : Oper} {a : Act} {w : World} {K : Act → World → Prop} {Q : Exit → Act → World → Prop} {E : Prop} (t e : TypeId) (ht : Tryz.prog.underlying t = some (.slice e)) (hI : (Tryz.prog.info? e).map (fun i => (i.zero, i.size, i.bytes)) = some (some zNd, 5, 64))
    (s x : Operand) (hg : o.guard = none) (ho : o.op = Op.call { callee := Callee.builtin Builtin.append, args := #[s, x], argTypes := #[t, t] }) (base : Nat) (v : Value) (ks : List Nd) (y z : Nd) (q r : Value) (ad : Addr) (c : Nat)
    (hb : Kx X w base e v ks) (hc : NdC2 w ad y z q r) (hq : KsV w (fun b => X b ∧ some b ≠ v.ownBlock) q y.kids) (hr : KsV w (fun b => X b ∧ some b ≠ v.ownBlock) r z.kids) (hl : ks.length < 100000) (hbase : base ≤ w.heap.size) (hs : a.eval s = v) (hx : a.eval x = .slice (some ad) 2 c)
    (hK : ∀ v' w', Kx X w' base e v' (ks ++ [y] ++ [z]) → w.grownBy w' v.ownBlock → K (a.put o.dst v') w') :
    if Region.wanted o (yielded ops a.tmps) = true then Oper.wp Tryz.prog o a w K Q else E := by
  have hw : Region.wanted o (yielded ops a.tmps) = true := by simp [Region.wanted, hg]
  rw [if_pos hw]
  obtain ⟨v', w', hrun, h2, h3⟩ := append_runX2 t e o.type ht hI base v ks y z q r ad c w hb hc hq hr hl hbase
  unfold Oper.wp execOp
  simp only [ho, resolve, invoke, builtin, Sem.run_bind, Sem.run_pure, Result.andThen_ok, List.map_toArray, List.map_cons, List.map_nil, hs, hx, hrun]
  exact hK v' w' h2 h3
end
namespace Pm
theorem higher_ok {q : Ps} (h : higher q ≠ .error none) : (1 ≤ q.depth ∧ q.depth ≤ 1000001) ∧ higher q = .ok ((), { q with depth := q.depth - 1 }) := by
  unfold higher at h ⊢
  by_cases hd : 1 ≤ q.depth ∧ q.depth ≤ 1000001
  · exact ⟨hd, by rw [if_pos hd]⟩
  · rw [if_neg hd] at h
    exact absurd rfl h
theorem PsA.lower {w : World} {b tg cp : Nat} {all : List Tk} {q : Ps} (h : PsA w b tg cp all q) (hd : 1 ≤ q.depth ∧ q.depth ≤ 1000001) :
    w.cell? ⟨b, 2, none⟩ = some (.int .i64 q.depth) ∧ w.frozen? ⟨b, 2, none⟩ = false ∧ IntKind.i64.wrap ((q.depth : Int) - 1) = (q.depth : Int) - 1 ∧ PsA (w.setCell ⟨b, 2, none⟩ (.int .i64 ((q.depth : Int) - 1))) b tg cp all { q with depth := q.depth - 1 } ∧ w.grownBy (w.setCell ⟨b, 2, none⟩ (.int .i64 ((q.depth : Int) - 1))) (some b) := by
  obtain ⟨sl, hB, _, hK⟩ := h.blk
  have ez : ((q.depth - 1 : Nat) : Int) = (q.depth : Int) - 1 := by omega
  refine ⟨by have := hB.cell 2; simpa using this, hB.frozen 2, by rw [IntKind.wrap_i64]; omega, hK _ _ rfl ?_ (grown_set (grown_refl w (some b)) _ _), grown_set (grown_refl w (some b)) _ _⟩
  have hs := hB.set 2 (.int .i64 ((q.depth : Int) - 1))
  show Blk _ b 55 #[_, _, .int .i64 ((q.depth - 1 : Nat) : Int), _]
  rw [ez]
  simpa using hs
end Pm
end Go.Proofs.YtajoncmmdeahnaaGreatDoor
namespace Go.Proofs.YtajoncmmdeahnaaGreatDoor
open Go.RowKit
namespace Pm
set_option maxRecDepth 100000 in
set_option maxHeartbeats 4000000 in
theorem signed_any {b tg cp : Nat} {all : List Tk} {p : Ps} (R : Rc) (s : List UInt8) (w : World) (hP : PsA w b tg cp all p) (hx : signedP R s p ≠ .error none)
    (h259 : ∀ q W, PsA W b tg cp all q → R.oper q ≠ .error none → Calls Tryz.prog 259 #[.pointer (some ⟨b, 0, none⟩)] W (PrP (nV W.heap.size) b tg cp all W (R.oper q))) :
    Calls Tryz.prog 275 #[.pointer (some ⟨b, 0, none⟩), .string ⟨s.toArray⟩] w (PrP (nV w.heap.size) b tg cp all w (signedP R s p)) := by
  have hbl := hP.lt
  have htl := hP.tgl
  have X0 := hid (Blk.new w 27 #[.int .i64 0, .int .i64 0, .string ⟨#[]⟩, .int .i64 0, .slice none 0 0])
  have HX := hid hx
  have G0 := hid (grown_refl w (some b))
  have P0 := hid hP
  have C165 : Hid (∀ q W, PsA W b tg cp all q → openP s q ≠ .error none → Calls Tryz.prog 165 #[.pointer (some ⟨b, 0, none⟩), .string ⟨s.toArray⟩] W (PrP uV b tg cp all W (openP s q))) := fun q W hW h => open_any s W hW h
  have C259 := hid h259
  have C42 : Hid (∀ q x k t s n ps l c W, PsA W b tg cp all q → madeP x q ≠ .error none → Calls Tryz.prog 42 #[.pointer (some ⟨b, 0, none⟩), .agg #[.int .i64 k, .int .i64 t, .string s, .int .i64 n, .slice ps l c]] W (PrP (fun _ _ v => v = .agg #[.int .i64 k, .int .i64 t, .string s, .int .i64 n, .slice ps l c]) b tg cp all W (madeP x q))) := fun q x k t s n ps l c W hW h => made_any x k t s n ps l c W hW h
  have X00 : Hid (Blk ((w.alloc (.cells #[.int .i64 0, .int .i64 0, .string ⟨#[]⟩, .int .i64 0, .slice none 0 0] 27)).alloc (.cells #[.int .i64 25, .int .i64 0, .string ⟨s.toArray⟩, .int .i64 0, .slice none 0 0] 27)) w.heap.size 27 #[.int .i64 0, .int .i64 0, .string ⟨#[]⟩, .int .i64 0, .slice none 0 0]) := hid (X0.out.alloc _)
  have Y00 : Hid (Blk ((w.alloc (.cells #[.int .i64 0, .int .i64 0, .string ⟨#[]⟩, .int .i64 0, .slice none 0 0] 27)).alloc (.cells #[.int .i64 25, .int .i64 0, .string ⟨s.toArray⟩, .int .i64 0, .slice none 0 0] 27)) (w.heap.size + 1) 27 #[.int .i64 25, .int .i64 0, .string ⟨s.toArray⟩, .int .i64 0, .slice none 0 0]) := hid (by have h := Blk.new (w.alloc (.cells #[.int .i64 0, .int .i64 0, .string ⟨#[]⟩, .int .i64 0, .slice none 0 0] 27)) 27 #[.int .i64 25, .int .i64 0, .string ⟨s.toArray⟩, .int .i64 0, .slice none 0 0]; rw [World.size_alloc] at h; exact h)
  clear hx hP
  go_enter Tryz.func275, Tryz.ntmps275
  go_wp2_with (first
    | (go_at_call 165; refine (C165.out p _ (P0.out.loc (n := w.heap.size) (by repeat (first | exact Loc.refl _ _ | refine Loc.alloc ?_ _ | refine Loc.quiet ?_ (by assumption))) hbl htl) (by have h := HX.out; unfold signedP at h; exact bnd_ne h)).mono ?_; intro e w1 hh0; rcases PrP.cases hh0 (by have h := HX.out; unfold signedP at h; exact bnd_ne h) with hh | hh; (case inl => obtain ⟨at_, n, hz, rfl, g⟩ := hh; exact ⟨rfl, by unfold signedP; rw [bnd_err hz]; exact ⟨rfl, grown_bb (Loc.grown G0.out (by repeat (first | exact Loc.refl _ _ | refine Loc.alloc ?_ _ | refine Loc.quiet ?_ (by assumption)))) g⟩⟩); obtain ⟨a1, q1, v1, hz, rfl, hv, pp, g⟩ := hh; have hv' : v1 = .tuple #[] := hv; subst hv'; have HZ1 := hid (And.intro hz trivial); have P1 := hid pp; have G1 := hid (grown_bb (Loc.grown G0.out (by repeat (first | exact Loc.refl _ _ | refine Loc.alloc ?_ _ | refine Loc.quiet ?_ (by assumption)))) g); have hs1 := g.size; rw [World.size_alloc, World.size_alloc] at hs1; have X1 := hid (X00.out.kept g (lt_nb hbl _ (by omega))); have Y1 := hid (Y00.out.kept g (lt_nb hbl _ (by omega))); clear hz pp g hh0))
  have c4 := Y1.out.cell 4
  simp at c4
  have f4 := Y1.out.frozen 4
  have GD : w1.grownBy w1.drew none := grown_drew (grown_refl _ _)
  clear C165 h259
  go_region_law (first
    | (go_simp; go_at_call 259; refine (C259.out q1 _ (P1.out.kept GD) (by have h := HX.out; unfold signedP at h; rw [bnd_ok HZ1.out.1] at h; exact bnd_ne h)).mono ?_; intro e w2 hh0; rcases PrP.cases hh0 (by have h := HX.out; unfold signedP at h; rw [bnd_ok HZ1.out.1] at h; exact bnd_ne h) with hh | hh; (case inl => obtain ⟨at_, n, hz, rfl, g⟩ := hh; exact ⟨rfl, by unfold signedP; rw [bnd_ok HZ1.out.1, bnd_err hz]; exact ⟨rfl, grown_bb (Loc.grown G1.out ((Loc.refl _ w1).quiet GD)) g⟩⟩); obtain ⟨a2, q2, v2, hz, rfl, hv, pp, g⟩ := hh; obtain ⟨qs2, rfl, hk⟩ := hv; obtain ⟨ps2, cs2, rfl, _, _, _⟩ := hk.form; have HZ2 := hid (And.intro hz trivial); have P2 := hid pp; have G2 := hid (grown_bb (Loc.grown G1.out ((Loc.refl _ w1).quiet GD)) g); have gg : w1.grownBy w2 (some b) := grown_bb (grown_b GD) g; have K2 := hid hk; have X2 := hid (X1.out.kept gg (lt_nb hbl _ (by omega))); have Y2 := hid (Y1.out.kept gg (lt_nb hbl _ (by omega))); have hs2 : w1.heap.size ≤ w2.heap.size := gg.size; have d4 := Y2.out.cell 4; simp at d4; have f5 := Y2.out.frozen 4; have e6 : ∀ o, (w2.alloc o).cell? ⟨w.heap.size + 1, 4, none⟩ = some (.slice none 0 0) := fun o => (Y2.out.alloc o).cell 4; clear gg; clear hz pp g hh0)
    | (refine step_nd 25 27 Tryz.underlying25 info27 (.tmp 12) (.tmp 15) rfl rfl (w.heap.size + 2) (.slice none 0 0) [] a2 (.slice ps2 a2.kids.length cs2) ⟨w2.heap.size, 0, none⟩ 1 (Kb.nil _ _ _) (NdC.new w2 27 a2 _) ((K2.out.mono (fun g hg _ => ⟨by have h9 : w1.drew.heap.size = w1.heap.size := rfl; omega, by simp [Value.ownBlock]⟩)).kept (grown_alloc (grown_refl w2 none) _)) (by simp) (by rw [World.size_alloc]; omega) rfl rfl ?_; intro v5 w5 h5 g5; have KB5 := hid h5; have g5' : w2.grownBy w5 none := grown_none (grown_alloc (grown_refl w2 none) _) g5; have P5 := hid (P2.out.kept g5'); have G5 := hid (Loc.grown G2.out ((Loc.refl _ w2).quiet g5')); have X5 := hid (X2.out.kept g5' (by simp)); have Y5 := hid (Y2.out.kept g5' (by simp)); obtain ⟨p5, c5, e5, _⟩ := h5.form; subst e5; have d5 := Y5.out.cell 4; simp at d5; have f6 := Y5.out.frozen 4; have hs5 := g5'.size; clear h5 g5 g5'))
  all_goals
    have Y6 := hid (Y5.out.set 4 (.slice p5 1 c5))
    have gs := grown_set (grown_refl w5 (some (w.heap.size + 1))) 4 (.slice p5 1 c5)
    have P6 := hid (P5.out.keptG gs (by omega) (by omega))
    have G6 := hid (grown_to G5.out gs (by omega))
    have X6 := hid (X5.out.kept gs (fun e => by injection e with e; omega))
    have K6 := hid (KB5.out.ks.keptB gs (by omega))
    simp at Y6
    clear gs
    generalize w5.setCell ⟨w.heap.size + 1, 4, none⟩ (.slice p5 1 c5) = w6 at *
    have hhi : higher q2 ≠ .error none := (by have h := HX.out; unfold signedP at h; rw [bnd_ok HZ1.out.1, bnd_ok HZ2.out.1] at h; exact bnd_ne h)
    obtain ⟨hd, hz⟩ := higher_ok hhi
    have HZ6 := hid (And.intro hz trivial)
    obtain ⟨l1, l2, l3, l4, l5⟩ := P6.out.lower hd
    have P7 := hid l4
    have G7 := hid (grown_bb G6.out l5)
    have X7 := hid (X6.out.kept l5 (lt_nb hbl _ (by omega)))
    have Y7 := hid (Y6.out.kept l5 (lt_nb hbl _ (by omega)))
    have K7 := hid (K6.out.keptB l5 (by omega))
    have y0 := Y7.out.cell 0
    have y1 := Y7.out.cell 1
    have y2 := Y7.out.cell 2
    have y3 := Y7.out.cell 3
    have y4 := Y7.out.cell 4
    simp at y0 y1 y2 y3 y4
    clear l4 l5 hz hhi hd
    go_wp2_with (first
      | (go_at_call 42; refine (C42.out { q2 with depth := q2.depth - 1 } (.mk 25 0 ⟨s.toArray⟩ 0 [a2]) 25 0 ⟨s.toArray⟩ 0 p5 1 c5 _ P7.out (by have h := HX.out; unfold signedP at h; rw [bnd_ok HZ1.out.1, bnd_ok HZ2.out.1, bnd_ok HZ6.out.1] at h; exact h)).mono ?_; intro e w8 hh0; rcases PrP.cases hh0 (by have h := HX.out; unfold signedP at h; rw [bnd_ok HZ1.out.1, bnd_ok HZ2.out.1, bnd_ok HZ6.out.1] at h; exact h) with hh | hh; (case inl => obtain ⟨at_, n, hz, rfl, g⟩ := hh; exact ⟨rfl, by unfold signedP; rw [bnd_ok HZ1.out.1, bnd_ok HZ2.out.1, bnd_ok HZ6.out.1, hz]; exact ⟨rfl, grown_bb G7.out g⟩⟩); obtain ⟨a8, q8, v8, hz, rfl, hv, pp, g⟩ := hh; have hv' : v8 = _ := hv; subst hv'; obtain rfl := made_ok hz; have HZ8 := hid (And.intro hz trivial); have P8 := hid pp; have G8 := hid (grown_bb G7.out g); have X8 := hid (X7.out.kept g (lt_nb hbl _ (by omega))); have K8 := hid (K7.out.keptB g (by omega)); clear hz pp g hh0)
      | (refine store_nd (.tmp 4) (.tmp 27) rfl rfl w.heap.size X8.out rfl rfl ?_; intro w9 b9 g9; have Z9 := hid b9; have G9 := hid (grown_to G8.out g9 (Nat.le_refl _)); have P9 := hid (P8.out.keptG g9 (by omega) (by omega)); have K9 := hid (K8.out.keptB g9 (by omega)); clear b9 g9))
    refine bodyPost_ret (results_nd rfl _ _ w.heap.size rfl Z9.out) rfl ?_
    unfold signedP
    rw [bnd_ok HZ1.out.1, bnd_ok HZ2.out.1, bnd_ok HZ6.out.1, HZ8.out.1]
    exact ⟨_, rfl, ⟨_, rfl, K9.out.mono (fun g hg _ => by omega)⟩, P9.out, G9.out⟩
end Pm
end Go.Proofs.YtajoncmmdeahnaaGreatDoor
