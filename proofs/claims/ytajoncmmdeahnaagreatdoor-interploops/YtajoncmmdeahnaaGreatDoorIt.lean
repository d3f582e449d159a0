/-
  Placed nodes: a row that grows by append.
-/
import Derived.Test.YtajoncmmdeahnaaGreatDoorKId
import Derived.Test.YtajoncmmdeahnaaGreatDoorKPh
namespace Go.Proofs.YtajoncmmdeahnaaGreatDoor
open Go.RowKit
namespace Ip
theorem append_where8 {P : Program} {w : World} (base : Nat) (t ty e : TypeId) (i : TypeInfo) (z : Value) (bytes : Nat) (ht : P.underlying t = some (.slice e)) (hi : P.info? e = some i) (hz : i.zero = some z) (hsize : i.size = 8) (hby : i.bytes = bytes) (hzs : z.cells.size = 8)
    (v : Value) (n : Nat) (xs : List Value) (hown : w.ownsRow base e 8 v n xs) (ad : Addr) (m c : Nat) (news : List Value) (hm : 0 < m) (hl : news.length = m * 8) (hnews : ∀ j u, news[j]? = some u → w.cell? (ad.add j) = some u) (h1 : ∀ u ∈ news, u.oneCell' = true)
    (h63 : n + m ≤ 10000000) (hb : bytes ≤ 1000) (hbase : base ≤ w.heap.size) :
    ∃ v' w', (Builtin.append_ #[t, t] ty #[v, .slice (some ad) m c]).run P w = .ok v' w' ∧ w'.ownsRow base e 8 v' (n + m) (xs ++ news) ∧ w.grownBy w' v.ownBlock ∧ (v'.ownBlock = v.ownBlock ∨ v'.ownBlock = some w.heap.size) := by
  have hbytes : (n + m) * bytes ≤ 140737488355328 := Nat.le_trans (Nat.mul_le_mul h63 hb) (by decide)
  obtain ⟨v', w', hr, h2, h3, h4⟩ := run_append_own (P := P) w base t ty e i z 8 bytes ht hi hz hsize hby hzs (by decide) v n xs hown ad m c news hl hnews h1 (by unfold maxLen; omega) hbytes hbase
  refine ⟨v', w', hr, h2, h3, ?_⟩
  subst hby
  rcases owns_cases5 hown with ⟨rfl, rfl, rfl⟩ | ⟨g, cap, cur, rfl, hg, hB, hn, hc, hs, hx, hl1⟩
  · have e0 := run_append_nil (P := P) w t ty e i z ht hi hz ad m c news (by rw [hsize]; exact hl) hnews (by omega) (by omega) (by have hb' := hbytes; simp only [Nat.zero_add] at hb'; omega)
    rw [e0] at hr
    injection hr with e1 e2
    subst e1
    exact Or.inr rfl
  · by_cases hroom : n + m ≤ cap
    · have e0 := run_append_room (P := P) w t ty e i ht hi g n cap cur hB ad m c news (by rw [hsize]; exact hl) hnews h1 hroom (by rw [hsize]; have := Nat.mul_le_mul_right 8 hroom; omega)
      rw [e0] at hr
      injection hr with e1 e2
      subst e1
      exact Or.inl rfl
    · have holds : ∀ j q, xs[j]? = some q → w.cell? ((⟨g, 0, none⟩ : Addr).add j) = some q := hown.cells (g := g) rfl
      have e0 := run_append_grow (P := P) w t ty e i z ht hi hz ⟨g, 0, none⟩ n cap xs (by rw [hsize]; omega) holds ad m c news (by rw [hsize]; exact hl) hnews (by omega) (by omega) (growslice_fits (by omega) hbytes)
      rw [e0] at hr
      injection hr with e1 e2
      subst e1
      exact Or.inr rfl
def zPd : Value := .agg #[.int .i64 0, .int .i64 0, .string ⟨#[]⟩, .int .i64 0, .slice none 0 0, .string ⟨#[]⟩, .int .i64 0, .slice none 0 0]
theorem info121 : (Tryz.prog.info? 121).map (fun i => (i.zero, i.size, i.bytes)) = some (some zPd, 8, 112) := by kernel_rfl
def PdC (w : World) (ad : Addr) (y : Pd) (q : Value) : Prop := ∀ j u, [Value.int .i64 y.kind, .int .i64 y.ty, .string y.txt, .int .i64 y.num, .slice none 0 0, .string y.nm, .int .i64 y.pl, q][j]? = some u → w.cell? (ad.add j) = some u
theorem PdC.new (w : World) (e : TypeId) (y : Pd) (q : Value) : PdC (w.alloc (.cells #[.int .i64 y.kind, .int .i64 y.ty, .string y.txt, .int .i64 y.num, .slice none 0 0, .string y.nm, .int .i64 y.pl, q] e)) ⟨w.heap.size, 0, none⟩ y q := fun j u h => by
  rw [addr_at, Nat.zero_add, (Blk.new w e _).cell]
  simpa using h
section
variable {X : Nat → Prop}
def Kq (X : Nat → Prop) (w : World) (base : Nat) (e : TypeId) (v : Value) (ks : List Pd) : Prop := ∃ cs, w.ownsRow base e 8 v ks.length cs ∧ CellsP w (fun b => X b ∧ some b ≠ v.ownBlock) cs ks ∧ (ks = [] → v = .slice none 0 0)
theorem Kq.nil (w : World) (base : Nat) (e : TypeId) : Kq X w base e (.slice none 0 0) [] := ⟨[], World.ownsRow_nil w base e 8, rfl, fun _ => rfl⟩
theorem Kq.kept {w w' : World} {base : Nat} {e : TypeId} {v : Value} {ks : List Pd} {row : Option Nat} (h : Kq X w base e v ks) (hg : w.grownBy w' row) (hr : ∀ r, row = some r → r < base ∧ ¬ X r) : Kq X w' base e v ks := by
  obtain ⟨cs, h1, h2, h3⟩ := h
  refine ⟨cs, h1.kept hg ?_, h2.keptP (Kp.of_grown hg (fun b hb e => (hr b e.symm).2 hb.1)) (fun _ h _ => h), h3⟩
  cases hv : v.ownBlock with
  | none => exact Or.inl rfl
  | some g =>
    refine Or.inr (fun e => ?_)
    have h3 := (hr g e.symm).1
    have h4 := (h1.lt g hv).1
    omega
theorem Kq.form {w : World} {base : Nat} {e : TypeId} {v : Value} {ks : List Pd} (h : Kq X w base e v ks) : ∃ p cap, v = .slice p ks.length cap ∧ ks.length ≤ cap ∧ cap ≤ maxLen := by
  obtain ⟨cs, h1, _⟩ := h
  rcases owns_cases5 h1 with ⟨rfl, hn, _⟩ | ⟨g, cap, cur, rfl, _, _, hn, hc, _⟩
  · exact ⟨none, 0, by rw [hn], by omega, Nat.zero_le _⟩
  · exact ⟨_, cap, rfl, hn, hc⟩
theorem Kq.ks {w : World} {base : Nat} {e : TypeId} {v : Value} {ks : List Pd} (h : Kq X w base e v ks) : KsP w (fun b => X b ∨ base ≤ b) v ks := by
  obtain ⟨cs, h1, h2, h3⟩ := h
  have h2' := h2.keptP (w' := w) (Q := fun b => X b ∨ base ≤ b) (fun _ _ _ => rfl) (fun b h _ => Or.inl h.1)
  rcases owns_cases5 h1 with ⟨rfl, hn, _⟩ | ⟨g, cap, cur, rfl, hg, hB, hn, hcm, hs, hx, hl⟩
  · obtain rfl : ks = [] := List.length_eq_zero_iff.1 hn
    exact KsP.nil _ _
  · by_cases h0 : ks.length = 0
    · obtain rfl : ks = [] := List.length_eq_zero_iff.1 h0
      rw [h3 rfl]
      exact KsP.nil _ _
    · exact ⟨g, Or.inr ⟨by omega, Or.inr hg, cap, rfl, hn, hcm⟩, h2'.row (fun j u hj => by have := h1.cells (g := g) rfl j u hj; rw [addr_at] at this; exact this)⟩
theorem append_runP (t e ty : TypeId) (ht : Tryz.prog.underlying t = some (.slice e)) (hI : (Tryz.prog.info? e).map (fun i => (i.zero, i.size, i.bytes)) = some (some zPd, 8, 112)) (base : Nat) (v : Value) (ks : List Pd) (y : Pd) (q : Value) (ad : Addr) (c : Nat) (w : World)
    (hb : Kq X w base e v ks) (hc : PdC w ad y q) (hq : KsP w (fun b => X b ∧ some b ≠ v.ownBlock) q y.kids) (hl : ks.length < 100000) (hbase : base ≤ w.heap.size) :
    ∃ v' w', (Builtin.append_ #[t, t] ty #[v, .slice (some ad) 1 c]).run Tryz.prog w = .ok v' w' ∧ Kq X w' base e v' (ks ++ [y]) ∧ w.grownBy w' v.ownBlock := by
  obtain ⟨i5, hi, hz0, hz1, hz2⟩ := info_parts hI
  obtain ⟨cs, h1, h2, _⟩ := hb
  obtain ⟨v', w', hr, h3, h4, h5⟩ := append_where8 (P := Tryz.prog) base t ty e i5 zPd 112 ht hi hz0 hz1 hz2 rfl v ks.length cs h1 ad 1 c [.int .i64 y.kind, .int .i64 y.ty, .string y.txt, .int .i64 y.num, .slice none 0 0, .string y.nm, .int .i64 y.pl, q] (by decide) rfl hc (fun u hu => by
    simp only [List.mem_cons, List.not_mem_nil, or_false] at hu
    obtain ⟨p, cap, eq, _⟩ := hq.form
    rcases hu with rfl | rfl | rfl | rfl | rfl | rfl | rfl | rfl
    · rfl
    · rfl
    · rfl
    · rfl
    · rfl
    · rfl
    · rfl
    · rw [eq]; rfl) (by omega) (by decide) hbase
  have hK : Kp w w' (fun b => X b ∧ some b ≠ v.ownBlock) := Kp.of_grown h4 (fun b hb => hb.2)
  have hm : ∀ b, (X b ∧ some b ≠ v.ownBlock) → b < w.heap.size → (X b ∧ some b ≠ v'.ownBlock) := fun b hb hlt => ⟨hb.1, fun e => by
    rcases h5 with h5 | h5
    · exact hb.2 (by rw [e, h5])
    · rw [h5] at e
      have := Option.some.inj e
      omega⟩
  refine ⟨v', w', hr, ⟨_, ?_, CellsP.snoc (hq.keptP hK hm) (h2.keptP hK hm), fun e => ?_⟩, h4⟩
  · rw [List.length_append]; exact h3
  · simp at e
theorem append_pd {ops : Array Oper} {rest : List Oper} {o : Oper} {a : Act} {w : World} {Q : Exit → Act → World → Prop} (t e : TypeId) (ht : Tryz.prog.underlying t = some (.slice e)) (hI : (Tryz.prog.info? e).map (fun i => (i.zero, i.size, i.bytes)) = some (some zPd, 8, 112))
    (s x : Operand) (hgd : o.guard = none) (ho : o.op = Op.call { callee := Callee.builtin Builtin.append, args := #[s, x], argTypes := #[t, t] }) (base : Nat) (v : Value) (ks : List Pd) (y : Pd) (q : Value) (ad : Addr) (c : Nat)
    (hb : Kq X w base e v ks) (hc : PdC w ad y q) (hq : KsP w (fun b => X b ∧ some b ≠ v.ownBlock) q y.kids) (hl : ks.length < 100000) (hbase : base ≤ w.heap.size) (hs : a.eval s = v) (hx : a.eval x = .slice (some ad) 1 c)
    (h : ∀ v' w', Kq X w' base e v' (ks ++ [y]) → w.grownBy w' v.ownBlock → wpList Tryz.prog ops Q rest (a.put o.dst v') w') : wpList Tryz.prog ops Q (o :: rest) a w := by
  obtain ⟨v', w', hr, h2, h3⟩ := append_runP t e o.type ht hI base v ks y q ad c w hb hc hq hl hbase
  refine wpList_plain hgd fun K hK => ?_
  unfold Oper.wp execOp
  simp only [ho, resolve, invoke, builtin, Sem.run_bind, Sem.run_pure, Result.andThen_ok, List.map_toArray, List.map_cons, List.map_nil, hs, hx, hr]
  exact hK _ _ (h v' w' h2 h3)
theorem Kq.lt {w : World} {base : Nat} {e : TypeId} {v : Value} {ks : List Pd} (h : Kq X w base e v ks) : ∀ r, v.ownBlock = some r → base ≤ r ∧ r < w.heap.size := fun r hr => by
  obtain ⟨cs, h1, _⟩ := h
  exact h1.lt r hr
end
end Ip
end Go.Proofs.YtajoncmmdeahnaaGreatDoor
