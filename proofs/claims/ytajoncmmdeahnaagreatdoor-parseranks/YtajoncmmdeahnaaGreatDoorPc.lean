/-
  The parser's small steps: made, want, name, typed, open, shut.
-/
import Derived.Test.YtajoncmmdeahnaaGreatDoorKPb
namespace Go.Proofs.YtajoncmmdeahnaaGreatDoor
open Go.RowKit
namespace Pm
def overIf (c : Bool) (p : Ps) : Ps := if c then { p with over := true } else p
theorem over_nodes (c : Bool) (p : Ps) : (overIf c p).nodes = p.nodes := by unfold overIf; split <;> rfl
theorem over_depth (c : Bool) (p : Ps) : (overIf c p).depth = p.depth := by unfold overIf; split <;> rfl
theorem room_eq (h m : Nat) (p : Ps) : roomP h m p = .ok ((), overIf (decide (m ≤ h)) p) := by
  unfold roomP overIf
  by_cases hm : m ≤ h <;> simp [hm]
theorem bnd_ok {α β : Type} {x : Pr α} {f : α → Pr β} {p q : Ps} {a : α} (h : x p = .ok (a, q)) : (x >>= f) p = f a q := by
  show Pr.bnd x f p = _
  unfold Pr.bnd
  rw [h]
theorem bnd_err {α β : Type} {x : Pr α} {f : α → Pr β} {p : Ps} {e : Option (Nat × Nat)} (h : x p = .error e) : (x >>= f) p = .error e := by
  show Pr.bnd x f p = _
  unfold Pr.bnd
  rw [h]
theorem pure_ap {α : Type} (a : α) (p : Ps) : (pure a : Pr α) p = .ok (a, p) := rfl
theorem nxt_eq {p : Ps} {t : Tk} {r : List Tk} (hw : p.ws = t :: r) : nxt p = .ok (t, p) := by unfold nxt; rw [hw]
theorem nxt_nil {p : Ps} (hw : p.ws = []) : nxt p = .error none := by unfold nxt; rw [hw]
theorem sees_eq (s : List UInt8) {p : Ps} {t : Tk} {r : List Tk} (hw : p.ws = t :: r) : seesP s p = .ok (t.s == s, p) := by
  unfold seesP
  rw [bnd_ok (nxt_eq hw), pure_ap]
theorem sees_nil (s : List UInt8) {p : Ps} (hw : p.ws = []) : seesP s p = .error none := by
  unfold seesP
  rw [bnd_err (nxt_nil hw)]
theorem fail_eq {α : Type} (n : Nat) {p : Ps} {t : Tk} {r : List Tk} (hw : p.ws = t :: r) : (failP n : Pr α) p = .error (some (t.pl, n)) := by unfold failP; rw [hw]
theorem made_eq (n : Nd) (p : Ps) : madeP n p = if p.nodes ≤ 1000000 then .ok (n, { overIf (decide (2000 ≤ p.nodes)) p with nodes := p.nodes + 1 }) else .error none := by
  unfold madeP
  rw [bnd_ok (x := fun p => roomP p.nodes 2000 p) (room_eq p.nodes 2000 p)]
  by_cases h : p.nodes ≤ 1000000
  · rw [if_pos h, bnd_ok (q := { overIf (decide (2000 ≤ p.nodes)) p with nodes := p.nodes + 1 }) (a := ()) (by unfold more; rw [over_nodes, if_pos h]), pure_ap]
  · rw [if_neg h, bnd_err (e := none) (by unfold more; rw [over_nodes, if_neg h])]
theorem open_eq (s : List UInt8) (p : Ps) : openP s p = if p.depth ≤ 1000000 then wantP s { overIf (decide (40 ≤ p.depth)) p with depth := p.depth + 1 } else .error none := by
  unfold openP
  rw [bnd_ok (x := fun p => roomP p.depth 40 p) (room_eq p.depth 40 p)]
  by_cases h : p.depth ≤ 1000000
  · rw [if_pos h, bnd_ok (q := { overIf (decide (40 ≤ p.depth)) p with depth := p.depth + 1 }) (a := ()) (by unfold deeper; rw [over_depth, if_pos h])]
  · rw [if_neg h, bnd_err (e := none) (by unfold deeper; rw [over_depth, if_neg h])]
theorem want_eq (s : List UInt8) {p : Ps} {t : Tk} {r : List Tk} (hw : p.ws = t :: r) : wantP s p = if t.s == s then passP p else .error (some (t.pl, 110)) := by
  unfold wantP
  rw [bnd_ok (sees_eq s hw)]
  by_cases h : (t.s == s) = true
  · rw [if_pos h, if_pos h]
  · rw [if_neg h, if_neg h, fail_eq 110 hw]
theorem want_nil (s : List UInt8) {p : Ps} (hw : p.ws = []) : wantP s p = .error none := by
  unfold wantP
  rw [bnd_err (sees_nil s hw)]
theorem name_eq {p : Ps} {t : Tk} {r : List Tk} (hw : p.ws = t :: r) : nameP p = if t.kind == 1 then (match passP p with | .ok (_, q) => .ok (tkS t, q) | .error e => .error e) else .error (some (t.pl, 110)) := by
  unfold nameP
  rw [bnd_ok (nxt_eq hw)]
  by_cases h : (t.kind == 1) = true
  · rw [if_pos h, if_pos h]
    cases hp : passP p with
    | ok x => rw [bnd_ok hp]; rfl
    | error e => rw [bnd_err hp]
  · rw [if_neg h, if_neg h, fail_eq 110 hw]
theorem lt_nb {w : World} {b : Nat} (hb : b < w.heap.size) : ∀ i, w.heap.size ≤ i → some i ≠ some b := fun i hi e => by
  injection e with e
  omega
theorem PsA.lt {w : World} {b tg cp : Nat} {all : List Tk} {p : Ps} (h : PsA w b tg cp all p) : b < w.heap.size := by
  obtain ⟨sl, hB, _⟩ := h.blk
  exact hB.lt
theorem setRow_blk {w : World} {g : Nat} {t : TypeId} {old : Array Value} (hg : Blk w g t old) (cells : Array Value) : Blk (w.setRow g cells) g t cells := setRow_heap w g old cells t (0, 0) hg
theorem setRow_grown (w : World) (g : Nat) (cells : Array Value) : w.grownBy (w.setRow g cells) (some g) :=
  ⟨rfl, rfl, rfl, by simp, fun k _ hn => setRow_other w g k cells (fun e => hn (by rw [e]))⟩
theorem size27 : (Tryz.prog.info? 27).map (·.size) = some 5 := by kernel_rfl
theorem store_nd {ops : Array Oper} {rest : List Oper} {o : Oper} {a : Act} {w : World} {Q : Exit → Act → World → Prop} (x y : Operand) (hgd : o.guard = none) (ho : o.op = .store 27 x y) (g : Nat) {x0 x1 x2 x3 x4 : Value} {k t : Int} {s : ByteArray} {n : Int} {q : Option Addr} {l c : Nat} (hg : Blk w g 27 #[x0, x1, x2, x3, x4])
    (hx : a.eval x = .pointer (some ⟨g, 0, none⟩)) (hy : a.eval y = .agg #[.int .i64 k, .int .i64 t, .string s, .int .i64 n, .slice q l c])
    (h : ∀ w', Blk w' g 27 #[.int .i64 k, .int .i64 t, .string s, .int .i64 n, .slice q l c] → w.grownBy w' (some g) → wpList Tryz.prog ops Q rest (a.put o.dst undef) w') : wpList Tryz.prog ops Q (o :: rest) a w :=
  wpList_store_row hgd 27 x y ho g _ hx hy 27 _ hg size27 rfl (by simp [Value.oneCell']) (h _ (setRow_blk hg _) (setRow_grown w g _))
theorem results_nd {fn : Func} {p : Tmp} (h : fn.results = #[.cell p 27]) (tmps : Array Value) (w : World) (g : Nat) {x0 x1 x2 x3 x4 : Value} (hp : tmps.getD p undef = .pointer (some ⟨g, 0, none⟩)) (hg : Blk w g 27 #[x0, x1, x2, x3, x4]) : (results fn tmps).run Tryz.prog w = .ok (.agg #[x0, x1, x2, x3, x4]) w :=
  results_cell_row h _ _ g 27 _ (0, 0) _ hp hg Tryz.underlying27 rfl size27
theorem grown_to {w w1 w' : World} {b g : Nat} (h : w.grownBy w1 (some b)) (g1 : w1.grownBy w' (some g)) (hg : w.heap.size ≤ g) : w.grownBy w' (some b) :=
  ⟨g1.os.trans h.os, g1.tape.trans h.tape, g1.output.trans h.output, Nat.le_trans h.size g1.size, fun i hi hn => (g1.block i (Nat.lt_of_lt_of_le hi h.size) (fun e => by injection e with e; omega)).trans (h.block i hi hn)⟩
theorem PsA.keptG {w w' : World} {b tg cp g : Nat} {all : List Tk} {p : Ps} (h : PsA w b tg cp all p) (hg : w.grownBy w' (some g)) (h1 : b < g) (h2 : g ≠ tg) : PsA w' b tg cp all p := by
  obtain ⟨i, pa, q1, q2, q3, q4, q5, q6, q7, q8, q9⟩ := h
  refine ⟨i, pa, q1, q2, q3, q4, q5, q6.kept hg (fun e => by injection e with e; omega), q7, fun k t ht => ?_, q9.keptR hg (fun k e => by injection e with e; omega)⟩
  obtain ⟨c1, c2, c3⟩ := q8 k t ht
  have hne : some tg ≠ some g := fun e => h2 (Option.some.inj e).symm
  exact ⟨hg.cell c1 hne, hg.cell c2 hne, hg.cell c3 hne⟩
set_option maxRecDepth 100000 in
set_option maxHeartbeats 1000000 in
theorem made_any {b tg cp : Nat} {all : List Tk} {p : Ps} (x : Nd) (k t : Int) (s : ByteArray) (n : Int) (q : Option Addr) (l c : Nat) (w : World) (hP : PsA w b tg cp all p) (hx : madeP x p ≠ .error none) :
    Calls Tryz.prog 42 #[.pointer (some ⟨b, 0, none⟩), .agg #[.int .i64 k, .int .i64 t, .string s, .int .i64 n, .slice q l c]] w (PrP (fun _ _ v => v = .agg #[.int .i64 k, .int .i64 t, .string s, .int .i64 n, .slice q l c]) b tg cp all w (madeP x p)) := by
  rw [made_eq] at hx ⊢
  by_cases hn : p.nodes ≤ 1000000
  · rw [if_pos hn]
    have hl := hP.lt
    have TG : Hid (w.heap.size + 1 ≠ tg) := hid (by have := hP.tgl; omega)
    have C40 : Hid (∀ W, w.grownBy W none → Calls Tryz.prog 40 #[.pointer (some ⟨b, 0, none⟩), .int .i64 p.nodes, .int .i64 (2000 : Nat)] W (PrP uV b tg cp all W (.ok ((), overIf (decide (2000 ≤ p.nodes)) p)))) := fun W hW => by
      rw [← room_eq]
      exact room_any p.nodes 2000 W (hP.kept hW)
    obtain ⟨sl, hB, ⟨pa, n1, c1, rfl⟩, _⟩ := hP.blk
    have b1 := ((hB.alloc (.cells #[.int .i64 k, .int .i64 t, .string s, .int .i64 n, .slice q l c] 27)).alloc (.cells #[.int .i64 0, .int .i64 0, .string ⟨#[]⟩, .int .i64 0, .slice none 0 0] 27)).cell 1
    simp at b1
    have G2 := hid (grown_alloc (grown_alloc (grown_refl w none) (.cells #[.int .i64 k, .int .i64 t, .string s, .int .i64 n, .slice q l c] 27)) (.cells #[.int .i64 0, .int .i64 0, .string ⟨#[]⟩, .int .i64 0, .slice none 0 0] 27))
    have X0 := hid ((Blk.new w 27 #[.int .i64 k, .int .i64 t, .string s, .int .i64 n, .slice q l c]).alloc (.cells #[.int .i64 0, .int .i64 0, .string ⟨#[]⟩, .int .i64 0, .slice none 0 0] 27))
    have X1 := hid (Blk.new (w.alloc (.cells #[.int .i64 k, .int .i64 t, .string s, .int .i64 n, .slice q l c] 27)) 27 #[.int .i64 0, .int .i64 0, .string ⟨#[]⟩, .int .i64 0, .slice none 0 0])
    rw [World.size_alloc] at X1
    have wi : IntKind.i64.wrap ((p.nodes : Int) + 1) = ((p.nodes + 1 : Nat) : Int) := by rw [IntKind.wrap_i64]; omega
    have hon := over_nodes (decide (2000 ≤ p.nodes)) p
    generalize overIf (decide (2000 ≤ p.nodes)) p = p1 at *
    clear hB hx
    generalize p.nodes = nd at *
    clear hn hP
    go_enter Tryz.func42, Tryz.ntmps42
    go_wp2_with (first
      | (go_at_call 40; refine (C40.out _ G2.out).mono ?_; rintro e w3 ⟨v, rfl, rfl, p3, g3⟩; have P3 := hid p3; have G3 := hid g3; have Y0 := hid (X0.out.kept g3 (lt_nb hl _ (Nat.le_refl _))); have Y1 := hid (X1.out.kept g3 (lt_nb hl _ (Nat.le_succ _))); obtain ⟨sl, hB, ⟨pb, n2, c2, rfl⟩, hK⟩ := p3.blk; have HB3 := hid hB; have HK3 := hid hK; have d1 := hB.cell 1; simp at d1; rw [hon] at d1; have fz := hB.frozen 1; have y0 := Y0.out.cell 0; have y1 := Y0.out.cell 1; have y2 := Y0.out.cell 2; have y3 := Y0.out.cell 3; have y4 := Y0.out.cell 4; simp at y0 y1 y2 y3 y4; have P4 : Hid (PsA (w3.setCell ⟨b, 1, none⟩ (.int .i64 ((nd : Int) + 1))) b tg cp all { p1 with nodes := nd + 1 }) := hid (hK _ { p1 with nodes := nd + 1 } rfl (by have := hB.set 1 (.int .i64 ((nd : Int) + 1)); simpa using this) (grown_set (grown_refl w3 (some b)) _ _)); have G4 : Hid (w.grownBy (w3.setCell ⟨b, 1, none⟩ (.int .i64 ((nd : Int) + 1))) (some b)) := hid (grown_set (grown_bb (grown_b G2.out) G3.out) _ _); have Z0 : Hid (Blk (w3.setCell ⟨b, 1, none⟩ (.int .i64 ((nd : Int) + 1))) (w.heap.size + 1) 27 #[.int .i64 0, .int .i64 0, .string ⟨#[]⟩, .int .i64 0, .slice none 0 0]) := hid (Y1.out.other _ (show w.heap.size + 1 ≠ b by omega)); clear g3 p3 hB hK C40)
      | (refine store_nd (.tmp 4) (.tmp 18) rfl rfl (w.heap.size + 1) Z0.out rfl rfl ?_; intro w5 b5 g5; have Z1 := hid b5; have G5 := hid (grown_to G4.out g5 (Nat.le_succ _)); have P5 := hid (P4.out.keptG g5 (by omega) TG.out); clear b5 g5 Z0 P4 G4))
    refine bodyPost_ret (results_nd rfl _ _ (w.heap.size + 1) rfl Z1.out) rfl ?_
    exact ⟨_, rfl, rfl, P5.out, G5.out⟩
  · rw [if_neg hn] at hx
    exact absurd rfl hx
set_option maxRecDepth 100000 in
theorem want_any {b tg cp : Nat} {all : List Tk} {p : Ps} (s : List UInt8) (w : World) (hP : PsA w b tg cp all p) (hx : wantP s p ≠ .error none) :
    Calls Tryz.prog 120 #[.pointer (some ⟨b, 0, none⟩), .string ⟨s.toArray⟩] w (PrP uV b tg cp all w (wantP s p)) := by
  match hw : p.ws with
  | [] => exact absurd (want_nil s hw) hx
  | t :: r =>
    have C39 := hid (sees_any s w hP hw)
    rw [want_eq s hw] at hx ⊢
    cases hq : (t.s == s) with
    | false =>
      rw [hq] at C39
      have C82 : Hid (∀ W, w.grownBy W none → _) := fun W hW => fail_any 110 W (hP.kept hW) hw
      rw [if_neg (by decide)]
      clear hx hw hP hq
      go_enter Tryz.func120, Tryz.ntmps120
      go_wp2_with (first
        | (go_at_call 39; refine C39.out.mono ?_; rintro e w1 ⟨rfl, g1⟩; have G1 := hid g1; clear g1 C39)
        | (go_at_call 82; refine (C82.out _ G1.out).mono ?_; rintro e w2 ⟨rfl, g2⟩; have G2 := hid (grown_none G1.out g2); clear g2 C82))
      exact ⟨rfl, rfl, grown_b G2.out⟩
    | true =>
      rw [hq] at C39 hx
      rw [if_pos rfl] at hx ⊢
      have C43 : Hid (∀ W, w.grownBy W none → _) := fun W hW => pass_any W (hP.kept hW) hx
      clear hw hP hq
      rcases hz : passP p with e0 | ⟨u, q⟩
      · rcases e0 with _ | ⟨at_, n⟩
        · exact absurd hz hx
        · rw [hz] at C43
          clear hx hz
          go_enter Tryz.func120, Tryz.ntmps120
          go_wp2_with (first
            | (go_at_call 39; refine C39.out.mono ?_; rintro e w1 ⟨rfl, g1⟩; have G1 := hid g1; clear g1 C39)
            | (go_at_call 43; refine (C43.out _ G1.out).mono ?_; rintro e w2 ⟨rfl, g2⟩; have G2 := hid (grown_bb (grown_b G1.out) g2); clear g2 C43))
          exact ⟨rfl, rfl, G2.out⟩
      · rw [hz] at C43
        clear hx hz
        go_enter Tryz.func120, Tryz.ntmps120
        go_wp2_with (first
          | (go_at_call 39; refine C39.out.mono ?_; rintro e w1 ⟨rfl, g1⟩; have G1 := hid g1; clear g1 C39)
          | (go_at_call 43; refine (C43.out _ G1.out).mono ?_; rintro e w2 ⟨v, rfl, rfl, p2, g2⟩; have P2 := hid p2; have G2 := hid (grown_bb (grown_b G1.out) g2); clear p2 g2 C43))
        go_end0
        exact ⟨_, rfl, rfl, P2.out, G2.out⟩
end Pm
end Go.Proofs.YtajoncmmdeahnaaGreatDoor
