/-
  A row of one's own whose nodes have their kids in blocks as X says; a tree with another node at a place.
-/
import Derived.Test.YtdodammplhlihaaDoorRc
import Derived.Deep.DeepCutAuto
namespace Go.Proofs.YtdodammplhlihaaDoor
open Go.RowKit
section
variable {X : Nat → Prop}
/-- A row of nodes of one's own, in blocks from base on. -/
def Kx (X : Nat → Prop) (w : World) (base : Nat) (e : TypeId) (v : Value) (ks : List Nd) : Prop := ∃ cs, w.ownsRow base e 5 v ks.length cs ∧ CellsN w (fun b => X b ∧ some b ≠ v.ownBlock) cs ks ∧ (ks = [] → v = .slice none 0 0)
theorem Kx.nil (w : World) (base : Nat) (e : TypeId) : Kx X w base e (.slice none 0 0) [] := ⟨[], World.ownsRow_nil w base e 5, rfl, fun _ => rfl⟩
theorem Kx.kept {w w' : World} {base : Nat} {e : TypeId} {v : Value} {ks : List Nd} {row : Option Nat} (h : Kx X w base e v ks) (hg : w.grownBy w' row) (hr : ∀ r, row = some r → r < base ∧ ¬ X r) : Kx X w' base e v ks := by
  obtain ⟨cs, h1, h2, h3⟩ := h
  refine ⟨cs, h1.kept hg ?_, h2.keptP (Kp.of_grown hg (fun b hb e => (hr b e.symm).2 hb.1)) (fun _ h _ => h), h3⟩
  cases hv : v.ownBlock with
  | none => exact Or.inl rfl
  | some g =>
    refine Or.inr (fun e => ?_)
    have h3 := (hr g e.symm).1
    have h4 := (h1.lt g hv).1
    omega
theorem Kx.form {w : World} {base : Nat} {e : TypeId} {v : Value} {ks : List Nd} (h : Kx X w base e v ks) : ∃ p cap, v = .slice p ks.length cap ∧ ks.length ≤ cap ∧ cap ≤ maxLen := by
  obtain ⟨cs, h1, _⟩ := h
  rcases owns_cases5 h1 with ⟨rfl, hn, _⟩ | ⟨g, cap, cur, rfl, _, _, hn, hc, _⟩
  · exact ⟨none, 0, by rw [hn], by omega, Nat.zero_le _⟩
  · exact ⟨_, cap, rfl, hn, hc⟩
/-- It reads as these nodes. -/
theorem Kx.ks {w : World} {base : Nat} {e : TypeId} {v : Value} {ks : List Nd} (h : Kx X w base e v ks) : KsV w (fun b => X b ∨ base ≤ b) v ks := by
  obtain ⟨cs, h1, h2, h3⟩ := h
  have h2' := h2.keptP (w' := w) (Q := fun b => X b ∨ base ≤ b) (fun _ _ _ => rfl) (fun b h _ => Or.inl h.1)
  rcases owns_cases5 h1 with ⟨rfl, hn, _⟩ | ⟨g, cap, cur, rfl, hg, hB, hn, hcm, hs, hx, hl⟩
  · obtain rfl : ks = [] := List.length_eq_zero_iff.1 hn
    exact KsV.nil _ _
  · by_cases h0 : ks.length = 0
    · obtain rfl : ks = [] := List.length_eq_zero_iff.1 h0
      rw [h3 rfl]
      exact KsV.nil _ _
    · exact ⟨g, Or.inr ⟨by omega, Or.inr hg, cap, rfl, hn, hcm⟩, h2'.row (fun j u hj => by have := h1.cells (g := g) rfl j u hj; rw [addr_at] at this; exact this)⟩
theorem append_runX (t e ty : TypeId) (ht : Tryd.prog.underlying t = some (.slice e)) (hI : (Tryd.prog.info? e).map (fun i => (i.zero, i.size, i.bytes)) = some (some zNd, 5, 64)) (base : Nat) (v : Value) (ks : List Nd) (y : Nd) (q : Value) (ad : Addr) (c : Nat) (w : World)
    (hb : Kx X w base e v ks) (hc : NdC w ad y q) (hq : KsV w (fun b => X b ∧ some b ≠ v.ownBlock) q y.kids) (hl : ks.length < 100000) (hbase : base ≤ w.heap.size) :
    ∃ v' w', (Builtin.append_ #[t, t] ty #[v, .slice (some ad) 1 c]).run Tryd.prog w = .ok v' w' ∧ Kx X w' base e v' (ks ++ [y]) ∧ w.grownBy w' v.ownBlock := by
  obtain ⟨i5, hi, hz0, hz1, hz2⟩ := info_parts hI
  obtain ⟨cs, h1, h2, _⟩ := hb
  obtain ⟨v', w', hr, h3, h4, h5⟩ := append_where5 (P := Tryd.prog) base t ty e i5 zNd 64 ht hi hz0 hz1 hz2 rfl v ks.length cs h1 ad 1 c [.int .i64 y.kind, .int .i64 y.ty, .string y.txt, .int .i64 y.num, q] (by decide) rfl hc (fun u hu => by
    simp only [List.mem_cons, List.not_mem_nil, or_false] at hu
    obtain ⟨p, cap, eq, _⟩ := hq.form
    rcases hu with rfl | rfl | rfl | rfl | rfl
    · rfl
    · rfl
    · rfl
    · rfl
    · rw [eq]; rfl) (by omega) (by decide) hbase
  have hK : Kp w w' (fun b => X b ∧ some b ≠ v.ownBlock) := Kp.of_grown h4 (fun b hb => hb.2)
  have hm : ∀ b, (X b ∧ some b ≠ v.ownBlock) → b < w.heap.size → (X b ∧ some b ≠ v'.ownBlock) := fun b hb hlt => ⟨hb.1, fun e => by
    rcases h5 with h5 | h5
    · exact hb.2 (by rw [e, h5])
    · rw [h5] at e
      have := Option.some.inj e
      omega⟩
  refine ⟨v', w', hr, ⟨_, ?_, CellsN.snoc (hq.keptP hK hm) (h2.keptP hK hm), fun e => ?_⟩, h4⟩
  · rw [List.length_append]; exact h3
  · simp at e
/-- append of a node, in a region that draws its order. -/
theorem step_ndX {ops : Array Oper} {o : Oper} {a : Act} {w : World} {K : Act → World → Prop} {Q : Exit → Act → World → Prop} {E : Prop} (t e : TypeId) (ht : Tryd.prog.underlying t = some (.slice e)) (hI : (Tryd.prog.info? e).map (fun i => (i.zero, i.size, i.bytes)) = some (some zNd, 5, 64))
    (s x : Operand) (hg : o.guard = none) (ho : o.op = Op.call { callee := Callee.builtin Builtin.append, args := #[s, x], argTypes := #[t, t] }) (base : Nat) (v : Value) (ks : List Nd) (y : Nd) (q : Value) (ad : Addr) (c : Nat)
    (hb : Kx X w base e v ks) (hc : NdC w ad y q) (hq : KsV w (fun b => X b ∧ some b ≠ v.ownBlock) q y.kids) (hl : ks.length < 100000) (hbase : base ≤ w.heap.size) (hs : a.eval s = v) (hx : a.eval x = .slice (some ad) 1 c)
    (hK : ∀ v' w', Kx X w' base e v' (ks ++ [y]) → w.grownBy w' v.ownBlock → K (a.put o.dst v') w') :
    if Region.wanted o (yielded ops a.tmps) = true then Oper.wp Tryd.prog o a w K Q else E := by
  have hw : Region.wanted o (yielded ops a.tmps) = true := by simp [Region.wanted, hg]
  rw [if_pos hw]
  obtain ⟨v', w', hr, h2, h3⟩ := append_runX t e o.type ht hI base v ks y q ad c w hb hc hq hl hbase
  unfold Oper.wp execOp
  simp only [ho, resolve, invoke, builtin, Sem.run_bind, Sem.run_pure, Result.andThen_ok, List.map_toArray, List.map_cons, List.map_nil, hs, hx, hr]
  exact hK v' w' h2 h3
/-- append of a node, elsewhere. -/
theorem append_ndX {ops : Array Oper} {rest : List Oper} {o : Oper} {a : Act} {w : World} {Q : Exit → Act → World → Prop} (t e : TypeId) (ht : Tryd.prog.underlying t = some (.slice e)) (hI : (Tryd.prog.info? e).map (fun i => (i.zero, i.size, i.bytes)) = some (some zNd, 5, 64))
    (s x : Operand) (hgd : o.guard = none) (ho : o.op = Op.call { callee := Callee.builtin Builtin.append, args := #[s, x], argTypes := #[t, t] }) (base : Nat) (v : Value) (ks : List Nd) (y : Nd) (q : Value) (ad : Addr) (c : Nat)
    (hb : Kx X w base e v ks) (hc : NdC w ad y q) (hq : KsV w (fun b => X b ∧ some b ≠ v.ownBlock) q y.kids) (hl : ks.length < 100000) (hbase : base ≤ w.heap.size) (hs : a.eval s = v) (hx : a.eval x = .slice (some ad) 1 c)
    (h : ∀ v' w', Kx X w' base e v' (ks ++ [y]) → w.grownBy w' v.ownBlock → wpList Tryd.prog ops Q rest (a.put o.dst v') w') : wpList Tryd.prog ops Q (o :: rest) a w := by
  obtain ⟨v', w', hr, h2, h3⟩ := append_runX t e o.type ht hI base v ks y q ad c w hb hc hq hl hbase
  refine wpList_plain hgd fun K hK => ?_
  unfold Oper.wp execOp
  simp only [ho, resolve, invoke, builtin, Sem.run_bind, Sem.run_pure, Result.andThen_ok, List.map_toArray, List.map_cons, List.map_nil, hs, hx, hr]
  exact hK _ _ (h v' w' h2 h3)
theorem Kx.lt {w : World} {base : Nat} {e : TypeId} {v : Value} {ks : List Nd} (h : Kx X w base e v ks) : ∀ r, v.ownBlock = some r → base ≤ r ∧ r < w.heap.size := fun r hr => by
  obtain ⟨cs, h1, _⟩ := h
  exact h1.lt r hr
theorem row_underX {w : World} {base : Nat} {e : TypeId} {v : Value} {ks : List Nd} (h : Kx X w base e v ks) : ∀ r, v.ownBlock = some r → base ≤ r := fun r hr => by
  obtain ⟨cs, h1, _⟩ := h
  exact (h1.lt r hr).1
end
mutual
/-- A tree with another node at a place. -/
def Nd.repl (b : Nd) : Nd → Nat → Nd
  | .mk k t s n ks, p => if p = 0 then b else .mk k t s n (Nd.replA b p 1 ks)
/-- Kids of which the first stands at place a. -/
def Nd.replA (b : Nd) (p a : Nat) : List Nd → List Nd
  | [] => []
  | x :: r => (if a ≤ p ∧ p < a + x.cnt then Nd.repl b x (p - a) else x) :: Nd.replA b p (a + x.cnt) r
end
theorem Nd.replA_append (b : Nd) (p : Nat) : ∀ (l m : List Nd) (a : Nat), Nd.replA b p a (l ++ m) = Nd.replA b p a l ++ Nd.replA b p (a + Nd.cnts l) m
  | [], m, a => by rw [List.nil_append, Nd.replA, Nd.cnts]; rfl
  | x :: r, m, a => by
    rw [List.cons_append, Nd.replA, Nd.replA, Nd.replA_append b p r m, Nd.cnts, List.cons_append, Nat.add_assoc]
theorem Nd.replA_len (b : Nd) (p : Nat) : ∀ (l : List Nd) (a : Nat), (Nd.replA b p a l).length = l.length
  | [], _ => by rw [Nd.replA]
  | x :: r, a => by rw [Nd.replA, List.length_cons, List.length_cons, Nd.replA_len b p r]
end Go.Proofs.YtdodammplhlihaaDoor
