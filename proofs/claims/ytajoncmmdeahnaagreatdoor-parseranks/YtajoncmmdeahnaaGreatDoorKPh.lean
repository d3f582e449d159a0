/-
  A row of one's own whose nodes have their kids in blocks as X says; a tree with another node at a place. The parser: test. The parser: bracketed.
-/
import Derived.Deep.DeepCutAuto
import Derived.Test.YtajoncmmdeahnaaGreatDoorKPf
import Derived.Deep.RegionLaw
namespace Go.Proofs.YtajoncmmdeahnaaGreatDoor
open Go.RowKit
section
variable {X : Nat → Prop}
def Kx (X : Nat → Prop) (w : World) (base : Nat) (e : TypeId) (v : Value) (ks : List Nd) : Prop := ∃ cs, w.ownsRow base e 5 v ks.length cs ∧ CellsN w (fun b => X b ∧ some b ≠ v.ownBlock) cs ks ∧ (ks = [] → v = .slice none 0 0)
theorem Kx.nil (w : World) (base : Nat) (e : TypeId) : Kx X w base e (.slice none 0 0) [] := ⟨[], World.ownsRow_nil w base e 5, rfl, fun _ => rfl⟩
theorem Kx.kept {w w' : World} {base : Nat} {e : TypeId} {v : Value} {ks : List Nd} {row : Option Nat} (h : Kx X w base e v ks) (hg : w.grownBy w' row) (hr : ∀ r, row = some r → r < base ∧ ¬ X r) : Kx X w' base e v ks := by
  obtain ⟨cs, h1, h2, h3⟩ := h
  refine ⟨cs, h1.kept hg ?_, h2.keptP (Kp.of_grown hg (fun b hb e => (hr b e.symm).2 hb.1)) (fun _ h _ => h), h3⟩
  cases hv : v.ownBlock with
  | none => exact Or.inl rfl
  | some g =>
    refine Or.inr (fun e => ?_)
    have h3 := (hr g e.symm).1
    have h4 := (h1.lt g hv).1
    omega
theorem Kx.form {w : World} {base : Nat} {e : TypeId} {v : Value} {ks : List Nd} (h : Kx X w base e v ks) : ∃ p cap, v = .slice p ks.length cap ∧ ks.length ≤ cap ∧ cap ≤ maxLen := by
  obtain ⟨cs, h1, _⟩ := h
  rcases owns_cases5 h1 with ⟨rfl, hn, _⟩ | ⟨g, cap, cur, rfl, _, _, hn, hc, _⟩
  · exact ⟨none, 0, by rw [hn], by omega, Nat.zero_le _⟩
  · exact ⟨_, cap, rfl, hn, hc⟩
theorem Kx.ks {w : World} {base : Nat} {e : TypeId} {v : Value} {ks : List Nd} (h : Kx X w base e v ks) : KsV w (fun b => X b ∨ base ≤ b) v ks := by
  obtain ⟨cs, h1, h2, h3⟩ := h
  have h2' := h2.keptP (w' := w) (Q := fun b => X b ∨ base ≤ b) (fun _ _ _ => rfl) (fun b h _ => Or.inl h.1)
  rcases owns_cases5 h1 with ⟨rfl, hn, _⟩ | ⟨g, cap, cur, rfl, hg, hB, hn, hcm, hs, hx, hl⟩
  · obtain rfl : ks = [] := List.length_eq_zero_iff.1 hn
    exact KsV.nil _ _
  · by_cases h0 : ks.length = 0
    · obtain rfl : ks = [] := List.length_eq_zero_iff.1 h0
      rw [h3 rfl]
      exact KsV.nil _ _
    · exact ⟨g, Or.inr ⟨by omega, Or.inr hg, cap, rfl, hn, hcm⟩, h2'.row (fun j u hj => by have := h1.cells (g := g) rfl j u hj; rw [addr_at] at this; exact this)⟩
theorem append_runX (t e ty : TypeId) (ht : Tryz.prog.underlying t = some (.slice e)) (hI : (Tryz.prog.info? e).map (fun i => (i.zero, i.size, i.bytes)) = some (some zNd, 5, 64)) (base : Nat) (v : Value) (ks : List Nd) (y : Nd) (q : Value) (ad : Addr) (c : Nat) (w : World)
    (hb : Kx X w base e v ks) (hc : NdC w ad y q) (hq : KsV w (fun b => X b ∧ some b ≠ v.ownBlock) q y.kids) (hl : ks.length < 100000) (hbase : base ≤ w.heap.size) :
    ∃ v' w', (Builtin.append_ #[t, t] ty #[v, .slice (some ad) 1 c]).run Tryz.prog w = .ok v' w' ∧ Kx X w' base e v' (ks ++ [y]) ∧ w.grownBy w' v.ownBlock := by
  obtain ⟨i5, hi, hz0, hz1, hz2⟩ := info_parts hI
  obtain ⟨cs, h1, h2, _⟩ := hb
  obtain ⟨v', w', hr, h3, h4, h5⟩ := append_where5 (P := Tryz.prog) base t ty e i5 zNd 64 ht hi hz0 hz1 hz2 rfl v ks.length cs h1 ad 1 c [.int .i64 y.kind, .int .i64 y.ty, .string y.txt, .int .i64 y.num, q] (by decide) rfl hc (fun u hu => by
    simp only [List.mem_cons, List.not_mem_nil, or_false] at hu
    obtain ⟨p, cap, eq, _⟩ := hq.form
    rcases hu with rfl | rfl | rfl | rfl | rfl
    · rfl
    · rfl
    · rfl
    · rfl
    · rw [eq]; rfl) (by omega) (by decide) hbase
  have hK : Kp w w' (fun b => X b ∧ some b ≠ v.ownBlock) := Kp.of_grown h4 (fun b hb => hb.2)
  have hm : ∀ b, (X b ∧ some b ≠ v.ownBlock) → b < w.heap.size → (X b ∧ some b ≠ v'.ownBlock) := fun b hb hlt => ⟨hb.1, fun e => by
    rcases h5 with h5 | h5
    · exact hb.2 (by rw [e, h5])
    · rw [h5] at e
      have := Option.some.inj e
      omega⟩
  refine ⟨v', w', hr, ⟨_, ?_, CellsN.snoc (hq.keptP hK hm) (h2.keptP hK hm), fun e => ?_⟩, h4⟩
  · rw [List.length_append]; exact h3
  · simp at e
theorem step_ndX {ops : Array Oper} {o : Oper} {a : Act} {w : World} {K : Act → World → Prop} {Q : Exit → Act → World → Prop} {E : Prop} (t e : TypeId) (ht : Tryz.prog.underlying t = some (.slice e)) (hI : (Tryz.prog.info? e).map (fun i => (i.zero, i.size, i.bytes)) = some (some zNd, 5, 64))
    (s x : Operand) (hg : o.guard = none) (ho : o.op = Op.call { callee := Callee.builtin Builtin.append, args := #[s, x], argTypes := #[t, t] }) (base : Nat) (v : Value) (ks : List Nd) (y : Nd) (q : Value) (ad : Addr) (c : Nat)
    (hb : Kx X w base e v ks) (hc : NdC w ad y q) (hq : KsV w (fun b => X b ∧ some b ≠ v.ownBlock) q y.kids) (hl : ks.length < 100000) (hbase : base ≤ w.heap.size) (hs : a.eval s = v) (hx : a.eval x = .slice (some ad) 1 c)
    (hK : ∀ v' w', Kx X w' base e v' (ks ++ [y]) → w.grownBy w' v.ownBlock → K (a.put o.dst v') w') :
    if Region.wanted o (yielded ops a.tmps) = true then Oper.wp Tryz.prog o a w K Q else E := by
  have hw : Region.wanted o (yielded ops a.tmps) = true := by simp [Region.wanted, hg]
  rw [if_pos hw]
  obtain ⟨v', w', hr, h2, h3⟩ := append_runX t e o.type ht hI base v ks y q ad c w hb hc hq hl hbase
  unfold Oper.wp execOp
  simp only [ho, resolve, invoke, builtin, Sem.run_bind, Sem.run_pure, Result.andThen_ok, List.map_toArray, List.map_cons, List.map_nil, hs, hx, hr]
  exact hK v' w' h2 h3
theorem append_ndX {ops : Array Oper} {rest : List Oper} {o : Oper} {a : Act} {w : World} {Q : Exit → Act → World → Prop} (t e : TypeId) (ht : Tryz.prog.underlying t = some (.slice e)) (hI : (Tryz.prog.info? e).map (fun i => (i.zero, i.size, i.bytes)) = some (some zNd, 5, 64))
    (s x : Operand) (hgd : o.guard = none) (ho : o.op = Op.call { callee := Callee.builtin Builtin.append, args := #[s, x], argTypes := #[t, t] }) (base : Nat) (v : Value) (ks : List Nd) (y : Nd) (q : Value) (ad : Addr) (c : Nat)
    (hb : Kx X w base e v ks) (hc : NdC w ad y q) (hq : KsV w (fun b => X b ∧ some b ≠ v.ownBlock) q y.kids) (hl : ks.length < 100000) (hbase : base ≤ w.heap.size) (hs : a.eval s = v) (hx : a.eval x = .slice (some ad) 1 c)
    (h : ∀ v' w', Kx X w' base e v' (ks ++ [y]) → w.grownBy w' v.ownBlock → wpList Tryz.prog ops Q rest (a.put o.dst v') w') : wpList Tryz.prog ops Q (o :: rest) a w := by
  obtain ⟨v', w', hr, h2, h3⟩ := append_runX t e o.type ht hI base v ks y q ad c w hb hc hq hl hbase
  refine wpList_plain hgd fun K hK => ?_
  unfold Oper.wp execOp
  simp only [ho, resolve, invoke, builtin, Sem.run_bind, Sem.run_pure, Result.andThen_ok, List.map_toArray, List.map_cons, List.map_nil, hs, hx, hr]
  exact hK _ _ (h v' w' h2 h3)
theorem Kx.lt {w : World} {base : Nat} {e : TypeId} {v : Value} {ks : List Nd} (h : Kx X w base e v ks) : ∀ r, v.ownBlock = some r → base ≤ r ∧ r < w.heap.size := fun r hr => by
  obtain ⟨cs, h1, _⟩ := h
  exact h1.lt r hr
theorem row_underX {w : World} {base : Nat} {e : TypeId} {v : Value} {ks : List Nd} (h : Kx X w base e v ks) : ∀ r, v.ownBlock = some r → base ≤ r := fun r hr => by
  obtain ⟨cs, h1, _⟩ := h
  exact (h1.lt r hr).1
end
theorem KsV.keptB {w w' : World} {P : Nat → Prop} {q : Value} {ks : List Nd} {r : Nat} (h : KsV w P q ks) (g : w.grownBy w' (some r)) (hr : ¬ P r) : KsV w' P q ks := h.keptP (Kp.of_grown g (fun _ hb e => hr (Option.some.inj e ▸ hb))) (fun _ h _ => h)
end Go.Proofs.YtajoncmmdeahnaaGreatDoor
namespace Go.Proofs.YtajoncmmdeahnaaGreatDoor
open Go.RowKit
namespace Pm
set_option maxRecDepth 100000 in
set_option maxHeartbeats 4000000 in
theorem test_any {b tg cp : Nat} {all : List Tk} {p : Ps} (R : Rc) (w : World) (hP : PsA w b tg cp all p) (hx : testP R p ≠ .error none)
    (h126 : ∀ q W, PsA W b tg cp all q → R.block q ≠ .error none → Calls Tryz.prog 126 #[.pointer (some ⟨b, 0, none⟩)] W (PrP (nV W.heap.size) b tg cp all W (R.block q))) :
    Calls Tryz.prog 81 #[.pointer (some ⟨b, 0, none⟩)] w (PrP (nV w.heap.size) b tg cp all w (testP R p)) := by
  have hbl := hP.lt
  have htl := hP.tgl
  have X0 := hid (Blk.new w 27 #[.int .i64 0, .int .i64 0, .string ⟨#[]⟩, .int .i64 0, .slice none 0 0])
  have HX := hid hx
  have G0 := hid (grown_refl w (some b))
  have P0 := hid hP
  have C120 : Hid (∀ q W, PsA W b tg cp all q → wantP wTest q ≠ .error none → Calls Tryz.prog 120 #[.pointer (some ⟨b, 0, none⟩), .string ⟨#[116, 101, 115, 116]⟩] W (PrP uV b tg cp all W (wantP wTest q))) := fun q W hW h => want_any wTest W hW h
  have C121 : Hid (∀ q W, PsA W b tg cp all q → nameP q ≠ .error none → Calls Tryz.prog 121 #[.pointer (some ⟨b, 0, none⟩)] W (PrP sV b tg cp all W (nameP q))) := fun q W hW h => name_any W hW h
  have C126 := hid h126
  have C42 : Hid (∀ q x k t s n ps l c W, PsA W b tg cp all q → madeP x q ≠ .error none → Calls Tryz.prog 42 #[.pointer (some ⟨b, 0, none⟩), .agg #[.int .i64 k, .int .i64 t, .string s, .int .i64 n, .slice ps l c]] W (PrP (fun _ _ v => v = .agg #[.int .i64 k, .int .i64 t, .string s, .int .i64 n, .slice ps l c]) b tg cp all W (madeP x q))) := fun q x k t s n ps l c W hW h => made_any x k t s n ps l c W hW h
  clear hx hP h126
  go_enter Tryz.func81, Tryz.ntmps81
  go_wp2_with (first
    | (go_at_call 120; refine (C120.out p _ (P0.out.loc (n := w.heap.size) (by repeat (first | exact Loc.refl _ _ | refine Loc.alloc ?_ _ | refine Loc.quiet ?_ (by assumption))) hbl htl) (by have h := HX.out; unfold testP at h; exact bnd_ne h)).mono ?_; intro e w1 hh0; rcases PrP.cases hh0 (by have h := HX.out; unfold testP at h; exact bnd_ne h) with hh | hh; (case inl => obtain ⟨at_, n, hz, rfl, g⟩ := hh; exact ⟨rfl, by unfold testP; rw [bnd_err hz]; exact ⟨rfl, grown_bb (Loc.grown G0.out (by repeat (first | exact Loc.refl _ _ | refine Loc.alloc ?_ _ | refine Loc.quiet ?_ (by assumption)))) g⟩⟩); obtain ⟨a1, q1, v1, hz, rfl, hv, pp, g⟩ := hh; have hv' : v1 = .tuple #[] := hv; subst hv'; have HZ1 := hid (And.intro hz trivial); have P1 := hid pp; have G1 := hid (grown_bb (Loc.grown G0.out (by repeat (first | exact Loc.refl _ _ | refine Loc.alloc ?_ _ | refine Loc.quiet ?_ (by assumption)))) g); have X1 := hid (X0.out.kept g (lt_nb hbl _ (Nat.le_refl _))); clear hz pp g hh0)
    | (go_at_call 121; refine (C121.out q1 _ P1.out (by have h := HX.out; unfold testP at h; rw [bnd_ok HZ1.out.1] at h; exact bnd_ne h)).mono ?_; intro e w2 hh0; rcases PrP.cases hh0 (by have h := HX.out; unfold testP at h; rw [bnd_ok HZ1.out.1] at h; exact bnd_ne h) with hh | hh; (case inl => obtain ⟨at_, n, hz, rfl, g⟩ := hh; exact ⟨rfl, by unfold testP; rw [bnd_ok HZ1.out.1, bnd_err hz]; exact ⟨rfl, grown_bb G1.out g⟩⟩); obtain ⟨a2, q2, v2, hz, rfl, hv, pp, g⟩ := hh; have hv' : v2 = .string a2 := hv; subst hv'; have HZ2 := hid (And.intro hz trivial); have P2 := hid pp; have G2 := hid (grown_bb G1.out g); have X2 := hid (X1.out.kept g (lt_nb hbl _ (Nat.le_refl _))); clear hz pp g hh0))
  have Y3 := hid (Blk.new w2 27 #[.int .i64 4, .int .i64 0, .string a2, .int .i64 0, .slice none 0 0])
  have P3 := hid (P2.out.kept (grown_alloc (grown_refl w2 none) (.cells #[.int .i64 4, .int .i64 0, .string a2, .int .i64 0, .slice none 0 0] 27)))
  have G3 := hid (Loc.grown G2.out ((Loc.refl _ w2).alloc (.cells #[.int .i64 4, .int .i64 0, .string a2, .int .i64 0, .slice none 0 0] 27)))
  have X3 := hid (X2.out.alloc (.cells #[.int .i64 4, .int .i64 0, .string a2, .int .i64 0, .slice none 0 0] 27))
  generalize w2.alloc (.cells #[.int .i64 4, .int .i64 0, .string a2, .int .i64 0, .slice none 0 0] 27) = w3 at *
  have hc2 : w.heap.size ≤ w2.heap.size := G2.out.size
  have hcx := X2.out.lt
  have hc3 := Y3.out.lt
  generalize w2.heap.size = c at *
  have c4 := Y3.out.cell 4
  simp at c4
  have f4 := Y3.out.frozen 4
  have GD : w3.grownBy w3.drew none := grown_drew (grown_refl _ _)
  clear C120 C121
  go_region_law (first
    | (go_simp; go_at_call 126; refine (C126.out q2 _ (P3.out.kept GD) (by have h := HX.out; unfold testP at h; rw [bnd_ok HZ1.out.1, bnd_ok HZ2.out.1] at h; exact bnd_ne h)).mono ?_; intro e w4 hh0; rcases PrP.cases hh0 (by have h := HX.out; unfold testP at h; rw [bnd_ok HZ1.out.1, bnd_ok HZ2.out.1] at h; exact bnd_ne h) with hh | hh; (case inl => obtain ⟨at_, n, hz, rfl, g⟩ := hh; exact ⟨rfl, by unfold testP; rw [bnd_ok HZ1.out.1, bnd_ok HZ2.out.1, bnd_err hz]; exact ⟨rfl, grown_bb (Loc.grown G3.out ((Loc.refl _ w3).quiet GD)) g⟩⟩); obtain ⟨a4, q4, v4, hz, rfl, hv, pp, g⟩ := hh; obtain ⟨qs, rfl, hk⟩ := hv; obtain ⟨ps, cs, rfl, _, _, _⟩ := hk.form; have HZ4 := hid (And.intro hz trivial); have P4 := hid pp; have G4 := hid (grown_bb (Loc.grown G3.out ((Loc.refl _ w3).quiet GD)) g); have K4 := hid hk; have X4 := hid (X3.out.kept (grown_bb (grown_b GD) g) (lt_nb hbl _ (Nat.le_refl _))); have Y4 := hid (Y3.out.kept (grown_bb (grown_b GD) g) (lt_nb hbl _ hc2)); have hs4 : w3.heap.size ≤ w4.heap.size := (grown_bb (grown_b GD) g).size; have d4 := Y4.out.cell 4; simp at d4; have f5 := Y4.out.frozen 4; have e6 : ∀ o, (w4.alloc o).cell? ⟨c, 4, none⟩ = some (.slice none 0 0) := fun o => (Y4.out.alloc o).cell 4; clear hz pp g hh0)
    | (refine step_nd 25 27 Tryz.underlying25 info27 (.tmp 10) (.tmp 13) rfl rfl (c + 1) (.slice none 0 0) [] a4 (.slice ps a4.kids.length cs) ⟨w4.heap.size, 0, none⟩ 1 (Kb.nil _ _ _) (NdC.new w4 27 a4 _) ((K4.out.mono (fun g hg _ => ⟨by have h9 : w3.drew.heap.size = w3.heap.size := rfl; omega, by simp [Value.ownBlock]⟩)).kept (grown_alloc (grown_refl w4 none) _)) (by simp) (by rw [World.size_alloc]; omega) rfl rfl ?_; intro v5 w5 h5 g5; have KB5 := hid h5; have g5' : w4.grownBy w5 none := grown_none (grown_alloc (grown_refl w4 none) _) g5; have P5 := hid (P4.out.kept g5'); have G5 := hid (Loc.grown G4.out ((Loc.refl _ w4).quiet g5')); have X5 := hid (X4.out.kept g5' (by simp)); have Y5 := hid (Y4.out.kept g5' (by simp)); obtain ⟨p5, c5, e5, _⟩ := h5.form; subst e5; have d5 := Y5.out.cell 4; simp at d5; have f6 := Y5.out.frozen 4; have hs5 := g5'.size; clear h5 g5 g5'))
  all_goals
    have Y6 := hid (Y5.out.set 4 (.slice p5 1 c5))
    have gs := grown_set (grown_refl w5 (some c)) 4 (.slice p5 1 c5)
    have P6 := hid (P5.out.keptG gs (by omega) (by omega))
    have G6 := hid (grown_to G5.out gs hc2)
    have X6 := hid (X5.out.kept gs (fun e => by injection e with e; omega))
    have K6 := hid (KB5.out.ks.keptB gs (by omega))
    simp at Y6
    clear gs
    generalize w5.setCell ⟨c, 4, none⟩ (.slice p5 1 c5) = w6 at *
    have y0 := Y6.out.cell 0
    have y1 := Y6.out.cell 1
    have y2 := Y6.out.cell 2
    have y3 := Y6.out.cell 3
    have y4 := Y6.out.cell 4
    simp at y0 y1 y2 y3 y4
    go_wp2_with (first
      | (go_at_call 42; refine (C42.out q4 (.mk 4 0 a2 0 [a4]) 4 0 a2 0 p5 1 c5 _ P6.out (by have h := HX.out; unfold testP at h; rw [bnd_ok HZ1.out.1, bnd_ok HZ2.out.1, bnd_ok HZ4.out.1] at h; exact h)).mono ?_; intro e w7 hh0; rcases PrP.cases hh0 (by have h := HX.out; unfold testP at h; rw [bnd_ok HZ1.out.1, bnd_ok HZ2.out.1, bnd_ok HZ4.out.1] at h; exact h) with hh | hh; (case inl => obtain ⟨at_, n, hz, rfl, g⟩ := hh; exact ⟨rfl, by unfold testP; rw [bnd_ok HZ1.out.1, bnd_ok HZ2.out.1, bnd_ok HZ4.out.1, hz]; exact ⟨rfl, grown_bb G6.out g⟩⟩); obtain ⟨a7, q7, v7, hz, rfl, hv, pp, g⟩ := hh; have hv' : v7 = _ := hv; subst hv'; obtain rfl := made_ok hz; have HZ7 := hid (And.intro hz trivial); have P7 := hid pp; have G7 := hid (grown_bb G6.out g); have X7 := hid (X6.out.kept g (lt_nb hbl _ (Nat.le_refl _))); have K7 := hid (K6.out.keptB g (by omega)); clear hz pp g hh0)
      | (refine store_nd (.tmp 2) (.tmp 18) rfl rfl w.heap.size X7.out rfl rfl ?_; intro w8 b8 g8; have Z8 := hid b8; have G8 := hid (grown_to G7.out g8 (Nat.le_refl _)); have P8 := hid (P7.out.keptG g8 (by omega) (by omega)); have K8 := hid (K7.out.keptB g8 (by omega)); clear b8 g8))
    refine bodyPost_ret (results_nd rfl _ _ w.heap.size rfl Z8.out) rfl ?_
    unfold testP
    rw [bnd_ok HZ1.out.1, bnd_ok HZ2.out.1, bnd_ok HZ4.out.1, HZ7.out.1]
    exact ⟨_, rfl, ⟨_, rfl, K8.out.mono (fun g hg _ => by omega)⟩, P8.out, G8.out⟩
end Pm
end Go.Proofs.YtajoncmmdeahnaaGreatDoor
namespace Go.Proofs.YtajoncmmdeahnaaGreatDoor
open Go.RowKit
namespace Pm
set_option maxRecDepth 100000 in
set_option maxHeartbeats 4000000 in
theorem bracketed_any {b tg cp : Nat} {all : List Tk} {p : Ps} (R : Rc) (w : World) (hP : PsA w b tg cp all p) (hx : bracketedP R p ≠ .error none)
    (h231 : ∀ l q W, PsA W b tg cp all q → R.expr l q ≠ .error none → Calls Tryz.prog 231 #[.pointer (some ⟨b, 0, none⟩), .int .i64 l] W (PrP (nV W.heap.size) b tg cp all W (R.expr l q))) :
    Calls Tryz.prog 276 #[.pointer (some ⟨b, 0, none⟩)] w (PrP (nV w.heap.size) b tg cp all w (bracketedP R p)) := by
  have hbl := hP.lt
  have htl := hP.tgl
  have X0 := hid (Blk.new w 27 #[.int .i64 0, .int .i64 0, .string ⟨#[]⟩, .int .i64 0, .slice none 0 0])
  have HX := hid hx
  have G0 := hid (grown_refl w (some b))
  have P0 := hid hP
  have C165 : Hid (∀ q W, PsA W b tg cp all q → openP [40] q ≠ .error none → Calls Tryz.prog 165 #[.pointer (some ⟨b, 0, none⟩), .string ⟨#[40]⟩] W (PrP uV b tg cp all W (openP [40] q))) := fun q W hW h => open_any [40] W hW h
  have C231 : Hid (∀ q W, PsA W b tg cp all q → R.expr 1 q ≠ .error none → Calls Tryz.prog 231 #[.pointer (some ⟨b, 0, none⟩), .int .i64 1] W (PrP (nV W.heap.size) b tg cp all W (R.expr 1 q))) := fun q W hW h => h231 1 q W hW h
  have C167 : Hid (∀ q W, PsA W b tg cp all q → shutP [41] q ≠ .error none → Calls Tryz.prog 167 #[.pointer (some ⟨b, 0, none⟩), .string ⟨#[41]⟩] W (PrP uV b tg cp all W (shutP [41] q))) := fun q W hW h => shut_any [41] W hW h
  clear hx hP
  go_enter Tryz.func276, Tryz.ntmps276
  go_wp2_with (first
    | (go_at_call 165; refine (C165.out p _ (P0.out.loc (n := w.heap.size) (by repeat (first | exact Loc.refl _ _ | refine Loc.alloc ?_ _ | refine Loc.quiet ?_ (by assumption))) hbl htl) (by have h := HX.out; unfold bracketedP at h; exact bnd_ne h)).mono ?_; intro e w1 hh0; rcases PrP.cases hh0 (by have h := HX.out; unfold bracketedP at h; exact bnd_ne h) with hh | hh; (case inl => obtain ⟨at_, n, hz, rfl, g⟩ := hh; exact ⟨rfl, by unfold bracketedP; rw [bnd_err hz]; exact ⟨rfl, grown_bb (Loc.grown G0.out (by repeat (first | exact Loc.refl _ _ | refine Loc.alloc ?_ _ | refine Loc.quiet ?_ (by assumption)))) g⟩⟩); obtain ⟨a1, q1, v1, hz, rfl, hv, pp, g⟩ := hh; have hv' : v1 = .tuple #[] := hv; subst hv'; have HZ1 := hid (And.intro hz trivial); have P1 := hid pp; have G1 := hid (grown_bb (Loc.grown G0.out (by repeat (first | exact Loc.refl _ _ | refine Loc.alloc ?_ _ | refine Loc.quiet ?_ (by assumption)))) g); have X1 := hid (X0.out.kept g (lt_nb hbl _ (by omega))); clear hz pp g hh0)
    | (go_at_call 231; refine (C231.out q1 _ P1.out (by have h := HX.out; unfold bracketedP at h; rw [bnd_ok HZ1.out.1] at h; exact bnd_ne h)).mono ?_; intro e w2 hh0; rcases PrP.cases hh0 (by have h := HX.out; unfold bracketedP at h; rw [bnd_ok HZ1.out.1] at h; exact bnd_ne h) with hh | hh; (case inl => obtain ⟨at_, n, hz, rfl, g⟩ := hh; exact ⟨rfl, by unfold bracketedP; rw [bnd_ok HZ1.out.1, bnd_err hz]; exact ⟨rfl, grown_bb G1.out g⟩⟩); obtain ⟨a2, q2, v2, hz, rfl, hv, pp, g⟩ := hh; obtain ⟨qs2, rfl, hk⟩ := hv; obtain ⟨ps2, cs2, rfl, _, _, _⟩ := hk.form; have HZ2 := hid (And.intro hz trivial); have P2 := hid pp; have G2 := hid (grown_bb G1.out g); have s12 := g.size; have K2 := hid (hk.mono (Q := fun g => w1.heap.size ≤ g ∧ g < w2.heap.size) (fun _ h1 h2 => ⟨h1, h2⟩)); have X2 := hid (X1.out.kept g (lt_nb hbl _ (by omega))); clear hz pp g hh0)
    | (go_at_call 167; refine (C167.out q2 _ (P2.out.kept (grown_alloc (grown_refl w2 none) _)) (by have h := HX.out; unfold bracketedP at h; rw [bnd_ok HZ1.out.1, bnd_ok HZ2.out.1] at h; exact bnd_ne h)).mono ?_; intro e w3 hh0; rcases PrP.cases hh0 (by have h := HX.out; unfold bracketedP at h; rw [bnd_ok HZ1.out.1, bnd_ok HZ2.out.1] at h; exact bnd_ne h) with hh | hh; (case inl => obtain ⟨at_, n, hz, rfl, g⟩ := hh; exact ⟨rfl, by unfold bracketedP; rw [bnd_ok HZ1.out.1, bnd_ok HZ2.out.1, bnd_err hz]; exact ⟨rfl, grown_bb (Loc.grown G2.out ((Loc.refl _ w2).alloc _)) g⟩⟩); obtain ⟨a3, q3, v3, hz, rfl, hv, pp, g⟩ := hh; have hv' : v3 = .tuple #[] := hv; subst hv'; have HZ3 := hid (And.intro hz trivial); have P3 := hid pp; have G3 := hid (grown_bb (Loc.grown G2.out ((Loc.refl _ w2).alloc _)) g); have X3 := hid ((X2.out.alloc (.cells #[.int .i64 a2.kind, .int .i64 a2.ty, .string a2.txt, .int .i64 a2.num, .slice ps2 a2.kids.length cs2] 27)).kept g (lt_nb hbl _ (Nat.le_refl _))); have Y3 := hid ((Blk.new w2 27 #[.int .i64 a2.kind, .int .i64 a2.ty, .string a2.txt, .int .i64 a2.num, .slice ps2 a2.kids.length cs2]).kept g (lt_nb hbl _ (by have := G2.out.size; omega))); have K3 := hid ((K2.out.kept (grown_alloc (grown_refl w2 none) (.cells #[.int .i64 a2.kind, .int .i64 a2.ty, .string a2.txt, .int .i64 a2.num, .slice ps2 a2.kids.length cs2] 27))).keptB g (by have := G1.out.size; omega)); have y0 := Y3.out.cell 0; have y1 := Y3.out.cell 1; have y2 := Y3.out.cell 2; have y3 := Y3.out.cell 3; have y4 := Y3.out.cell 4; simp at y0 y1 y2 y3 y4; clear hz pp g hh0)
    | (refine store_nd (.tmp 2) (.tmp 10) rfl rfl w.heap.size X3.out rfl rfl ?_; intro w8 b8 g8; have Z8 := hid b8; have G8 := hid (grown_to G3.out g8 (Nat.le_refl _)); have P8 := hid (P3.out.keptG g8 (by omega) (by omega)); have K8 := hid (K3.out.keptB g8 (by have := G1.out.size; have := X1.out.lt; omega)); clear b8 g8))
  refine bodyPost_ret (results_nd rfl _ _ w.heap.size rfl Z8.out) rfl ?_
  unfold bracketedP
  rw [bnd_ok HZ1.out.1, bnd_ok HZ2.out.1, bnd_ok HZ3.out.1, pure_ap]
  exact ⟨_, rfl, ⟨_, rfl, K8.out.mono (fun g hg _ => by have := G1.out.size; omega)⟩, P8.out, G8.out⟩
end Pm
end Go.Proofs.YtajoncmmdeahnaaGreatDoor
