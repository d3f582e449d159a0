/-
  A row of nodes that grows by append. The parser's smallest steps: next, sees, room, fail, pass, want, name, typed, made.
-/
import Derived.Test.YtajoncmmdeahnaaGreatDoorKACi
import Derived.Deep.RegionLaw
import Derived.Test.YtajoncmmdeahnaaGreatDoorKRa
namespace Go.Proofs.YtajoncmmdeahnaaGreatDoor
open Go.RowKit
theorem owns_cases5 {w : World} {base : Nat} {e : TypeId} {sz : Nat} {v : Value} {n : Nat} {xs : List Value} (h : w.ownsRow base e sz v n xs) :
    (v = .slice none 0 0 ∧ n = 0 ∧ xs = []) ∨ ∃ g cap cur, v = .slice (some ⟨g, 0, none⟩) n cap ∧ base ≤ g ∧ Blk w g e cur ∧ n ≤ cap ∧ cap ≤ maxLen ∧ cur.size = cap * sz ∧ cur.toList.take (n * sz) = xs ∧ xs.length = n * sz := by
  obtain ⟨h1, h2⟩ := h
  rcases h2 with ⟨rfl, h3⟩ | ⟨g, cap, cur, rfl, hb, hg, hn, hc, hs, hx⟩
  · left
    refine ⟨rfl, h3, List.eq_nil_of_length_eq_zero ?_⟩
    rw [h1, h3, Nat.zero_mul]
  · exact Or.inr ⟨g, cap, cur, rfl, hb, hg, hn, hc, hs, hx, h1⟩
theorem append_where5 {P : Program} {w : World} (base : Nat) (t ty e : TypeId) (i : TypeInfo) (z : Value) (bytes : Nat) (ht : P.underlying t = some (.slice e)) (hi : P.info? e = some i) (hz : i.zero = some z) (hsize : i.size = 5) (hby : i.bytes = bytes) (hzs : z.cells.size = 5)
    (v : Value) (n : Nat) (xs : List Value) (hown : w.ownsRow base e 5 v n xs) (ad : Addr) (m c : Nat) (news : List Value) (hm : 0 < m) (hl : news.length = m * 5) (hnews : ∀ j u, news[j]? = some u → w.cell? (ad.add j) = some u) (h1 : ∀ u ∈ news, u.oneCell' = true)
    (h63 : n + m ≤ 10000000) (hb : bytes ≤ 1000) (hbase : base ≤ w.heap.size) :
    ∃ v' w', (Builtin.append_ #[t, t] ty #[v, .slice (some ad) m c]).run P w = .ok v' w' ∧ w'.ownsRow base e 5 v' (n + m) (xs ++ news) ∧ w.grownBy w' v.ownBlock ∧ (v'.ownBlock = v.ownBlock ∨ v'.ownBlock = some w.heap.size) := by
  have hbytes : (n + m) * bytes ≤ 140737488355328 := Nat.le_trans (Nat.mul_le_mul h63 hb) (by decide)
  obtain ⟨v', w', hr, h2, h3, h4⟩ := run_append_own (P := P) w base t ty e i z 5 bytes ht hi hz hsize hby hzs (by decide) v n xs hown ad m c news hl hnews h1 (by unfold maxLen; omega) hbytes hbase
  refine ⟨v', w', hr, h2, h3, ?_⟩
  subst hby
  rcases owns_cases5 hown with ⟨rfl, rfl, rfl⟩ | ⟨g, cap, cur, rfl, hg, hB, hn, hc, hs, hx, hl1⟩
  · have e0 := run_append_nil (P := P) w t ty e i z ht hi hz ad m c news (by rw [hsize]; exact hl) hnews (by omega) (by omega) (by have hb' := hbytes; simp only [Nat.zero_add] at hb'; omega)
    rw [e0] at hr
    injection hr with e1 e2
    subst e1
    exact Or.inr rfl
  · by_cases hroom : n + m ≤ cap
    · have e0 := run_append_room (P := P) w t ty e i ht hi g n cap cur hB ad m c news (by rw [hsize]; exact hl) hnews h1 hroom (by rw [hsize]; have := Nat.mul_le_mul_right 5 hroom; omega)
      rw [e0] at hr
      injection hr with e1 e2
      subst e1
      exact Or.inl rfl
    · have holds : ∀ j q, xs[j]? = some q → w.cell? ((⟨g, 0, none⟩ : Addr).add j) = some q := hown.cells (g := g) rfl
      have e0 := run_append_grow (P := P) w t ty e i z ht hi hz ⟨g, 0, none⟩ n cap xs (by rw [hsize]; omega) holds ad m c news (by rw [hsize]; exact hl) hnews (by omega) (by omega) (growslice_fits (by omega) hbytes)
      rw [e0] at hr
      injection hr with e1 e2
      subst e1
      exact Or.inr rfl
def Kb (w : World) (base : Nat) (e : TypeId) (v : Value) (ks : List Nd) : Prop := ∃ cs, w.ownsRow base e 5 v ks.length cs ∧ CellsN w (fun b => base ≤ b ∧ some b ≠ v.ownBlock) cs ks ∧ (ks = [] → v = .slice none 0 0)
theorem Kb.nil (w : World) (base : Nat) (e : TypeId) : Kb w base e (.slice none 0 0) [] := ⟨[], World.ownsRow_nil w base e 5, rfl, fun _ => rfl⟩
theorem Kb.kept {w w' : World} {base : Nat} {e : TypeId} {v : Value} {ks : List Nd} {row : Option Nat} (h : Kb w base e v ks) (hg : w.grownBy w' row) (hr : ∀ r, row = some r → r < base) : Kb w' base e v ks := by
  obtain ⟨cs, h1, h2, h3⟩ := h
  refine ⟨cs, h1.kept hg ?_, h2.keptP (Kp.of_grown hg (fun b hb e => by have := hr b e.symm; omega)) (fun _ h _ => h), h3⟩
  cases hv : v.ownBlock with
  | none => exact Or.inl rfl
  | some g =>
    refine Or.inr (fun e => ?_)
    have h3 := hr g e.symm
    have h4 := (h1.lt g hv).1
    omega
theorem Kb.form {w : World} {base : Nat} {e : TypeId} {v : Value} {ks : List Nd} (h : Kb w base e v ks) : ∃ p cap, v = .slice p ks.length cap ∧ ks.length ≤ cap ∧ cap ≤ maxLen := by
  obtain ⟨cs, h1, _⟩ := h
  rcases owns_cases5 h1 with ⟨rfl, hn, _⟩ | ⟨g, cap, cur, rfl, _, _, hn, hc, _⟩
  · exact ⟨none, 0, by rw [hn], by omega, Nat.zero_le _⟩
  · exact ⟨_, cap, rfl, hn, hc⟩
theorem addr_at (g o j : Nat) : (⟨g, o, none⟩ : Addr).add j = ⟨g, o + j, none⟩ := by unfold Addr.add; split <;> simp_all
theorem Kb.ks {w : World} {base : Nat} {e : TypeId} {v : Value} {ks : List Nd} (h : Kb w base e v ks) : KsV w (fun b => base ≤ b) v ks := by
  obtain ⟨cs, h1, h2, h3⟩ := h
  have h2' := h2.keptP (w' := w) (Q := fun b => base ≤ b) (fun _ _ _ => rfl) (fun b h _ => h.1)
  rcases owns_cases5 h1 with ⟨rfl, hn, _⟩ | ⟨g, cap, cur, rfl, hg, hB, hn, hcm, hs, hx, hl⟩
  · obtain rfl : ks = [] := List.length_eq_zero_iff.1 hn
    exact KsV.nil _ _
  · by_cases h0 : ks.length = 0
    · obtain rfl : ks = [] := List.length_eq_zero_iff.1 h0
      rw [h3 rfl]
      exact KsV.nil _ _
    · exact ⟨g, Or.inr ⟨by omega, hg, cap, rfl, hn, hcm⟩, h2'.row (fun j u hj => by have := h1.cells (g := g) rfl j u hj; rw [addr_at] at this; exact this)⟩
def zNd : Value := .agg #[.int .i64 0, .int .i64 0, .string ⟨#[]⟩, .int .i64 0, .slice none 0 0]
def NdC (w : World) (ad : Addr) (y : Nd) (q : Value) : Prop := ∀ j u, [Value.int .i64 y.kind, .int .i64 y.ty, .string y.txt, .int .i64 y.num, q][j]? = some u → w.cell? (ad.add j) = some u
theorem NdC.new (w : World) (e : TypeId) (y : Nd) (q : Value) : NdC (w.alloc (.cells #[.int .i64 y.kind, .int .i64 y.ty, .string y.txt, .int .i64 y.num, q] e)) ⟨w.heap.size, 0, none⟩ y q := fun j u h => by
  rw [addr_at, Nat.zero_add, (Blk.new w e _).cell]
  simpa using h
theorem append_run (t e ty : TypeId) (ht : Tryz.prog.underlying t = some (.slice e)) (hI : (Tryz.prog.info? e).map (fun i => (i.zero, i.size, i.bytes)) = some (some zNd, 5, 64)) (base : Nat) (v : Value) (ks : List Nd) (y : Nd) (q : Value) (ad : Addr) (c : Nat) (w : World)
    (hb : Kb w base e v ks) (hc : NdC w ad y q) (hq : KsV w (fun b => base ≤ b ∧ some b ≠ v.ownBlock) q y.kids) (hl : ks.length < 100000) (hbase : base ≤ w.heap.size) :
    ∃ v' w', (Builtin.append_ #[t, t] ty #[v, .slice (some ad) 1 c]).run Tryz.prog w = .ok v' w' ∧ Kb w' base e v' (ks ++ [y]) ∧ w.grownBy w' v.ownBlock := by
  obtain ⟨i5, hi, hz0, hz1, hz2⟩ := info_parts hI
  obtain ⟨cs, h1, h2, _⟩ := hb
  obtain ⟨v', w', hr, h3, h4, h5⟩ := append_where5 (P := Tryz.prog) base t ty e i5 zNd 64 ht hi hz0 hz1 hz2 rfl v ks.length cs h1 ad 1 c [.int .i64 y.kind, .int .i64 y.ty, .string y.txt, .int .i64 y.num, q] (by decide) rfl hc (fun u hu => by
    simp only [List.mem_cons, List.not_mem_nil, or_false] at hu
    obtain ⟨p, cap, eq, _⟩ := hq.form
    rcases hu with rfl | rfl | rfl | rfl | rfl
    · rfl
    · rfl
    · rfl
    · rfl
    · rw [eq]; rfl) (by omega) (by decide) hbase
  have hK : Kp w w' (fun b => base ≤ b ∧ some b ≠ v.ownBlock) := Kp.of_grown h4 (fun b hb => hb.2)
  have hm : ∀ b, (base ≤ b ∧ some b ≠ v.ownBlock) → b < w.heap.size → (base ≤ b ∧ some b ≠ v'.ownBlock) := fun b hb hlt => ⟨hb.1, fun e => by
    rcases h5 with h5 | h5
    · exact hb.2 (by rw [e, h5])
    · rw [h5] at e
      have := Option.some.inj e
      omega⟩
  refine ⟨v', w', hr, ⟨_, ?_, CellsN.snoc (hq.keptP hK hm) (h2.keptP hK hm), fun e => ?_⟩, h4⟩
  · rw [List.length_append]; exact h3
  · simp at e
theorem step_nd {ops : Array Oper} {o : Oper} {a : Act} {w : World} {K : Act → World → Prop} {Q : Exit → Act → World → Prop} {E : Prop} (t e : TypeId) (ht : Tryz.prog.underlying t = some (.slice e)) (hI : (Tryz.prog.info? e).map (fun i => (i.zero, i.size, i.bytes)) = some (some zNd, 5, 64))
    (s x : Operand) (hg : o.guard = none) (ho : o.op = Op.call { callee := Callee.builtin Builtin.append, args := #[s, x], argTypes := #[t, t] }) (base : Nat) (v : Value) (ks : List Nd) (y : Nd) (q : Value) (ad : Addr) (c : Nat)
    (hb : Kb w base e v ks) (hc : NdC w ad y q) (hq : KsV w (fun b => base ≤ b ∧ some b ≠ v.ownBlock) q y.kids) (hl : ks.length < 100000) (hbase : base ≤ w.heap.size) (hs : a.eval s = v) (hx : a.eval x = .slice (some ad) 1 c)
    (hK : ∀ v' w', Kb w' base e v' (ks ++ [y]) → w.grownBy w' v.ownBlock → K (a.put o.dst v') w') :
    if Region.wanted o (yielded ops a.tmps) = true then Oper.wp Tryz.prog o a w K Q else E := by
  have hw : Region.wanted o (yielded ops a.tmps) = true := by simp [Region.wanted, hg]
  rw [if_pos hw]
  obtain ⟨v', w', hr, h2, h3⟩ := append_run t e o.type ht hI base v ks y q ad c w hb hc hq hl hbase
  unfold Oper.wp execOp
  simp only [ho, resolve, invoke, builtin, Sem.run_bind, Sem.run_pure, Result.andThen_ok, List.map_toArray, List.map_cons, List.map_nil, hs, hx, hr]
  exact hK v' w' h2 h3
theorem append_nd {ops : Array Oper} {rest : List Oper} {o : Oper} {a : Act} {w : World} {Q : Exit → Act → World → Prop} (t e : TypeId) (ht : Tryz.prog.underlying t = some (.slice e)) (hI : (Tryz.prog.info? e).map (fun i => (i.zero, i.size, i.bytes)) = some (some zNd, 5, 64))
    (s x : Operand) (hgd : o.guard = none) (ho : o.op = Op.call { callee := Callee.builtin Builtin.append, args := #[s, x], argTypes := #[t, t] }) (base : Nat) (v : Value) (ks : List Nd) (y : Nd) (q : Value) (ad : Addr) (c : Nat)
    (hb : Kb w base e v ks) (hc : NdC w ad y q) (hq : KsV w (fun b => base ≤ b ∧ some b ≠ v.ownBlock) q y.kids) (hl : ks.length < 100000) (hbase : base ≤ w.heap.size) (hs : a.eval s = v) (hx : a.eval x = .slice (some ad) 1 c)
    (h : ∀ v' w', Kb w' base e v' (ks ++ [y]) → w.grownBy w' v.ownBlock → wpList Tryz.prog ops Q rest (a.put o.dst v') w') : wpList Tryz.prog ops Q (o :: rest) a w := by
  obtain ⟨v', w', hr, h2, h3⟩ := append_run t e o.type ht hI base v ks y q ad c w hb hc hq hl hbase
  refine wpList_plain hgd fun K hK => ?_
  unfold Oper.wp execOp
  simp only [ho, resolve, invoke, builtin, Sem.run_bind, Sem.run_pure, Result.andThen_ok, List.map_toArray, List.map_cons, List.map_nil, hs, hx, hr]
  exact hK _ _ (h v' w' h2 h3)
theorem grown_ob' {a b c : World} {ob : Option Nat} {row : Option Nat} (h : a.grownBy b row) (g : b.grownBy c ob) (hk : ∀ x, ob = some x → a.heap.size ≤ x) : a.grownBy c row :=
  ⟨g.os.trans h.os, g.tape.trans h.tape, g.output.trans h.output, Nat.le_trans h.size g.size, fun i hi hn => (g.block i (Nat.lt_of_lt_of_le hi h.size) (fun e => by have := hk i e.symm; omega)).trans (h.block i hi hn)⟩
theorem Kb.lt {w : World} {base : Nat} {e : TypeId} {v : Value} {ks : List Nd} (h : Kb w base e v ks) : ∀ r, v.ownBlock = some r → base ≤ r ∧ r < w.heap.size := fun r hr => by
  obtain ⟨cs, h1, _⟩ := h
  exact h1.lt r hr
theorem row_under {w : World} {base : Nat} {e : TypeId} {v : Value} {ks : List Nd} (h : Kb w base e v ks) : ∀ r, v.ownBlock = some r → base ≤ r := fun r hr => by
  obtain ⟨cs, h1, _⟩ := h
  exact (h1.lt r hr).1
end Go.Proofs.YtajoncmmdeahnaaGreatDoor
namespace Go.Proofs.YtajoncmmdeahnaaGreatDoor
open Go.RowKit
namespace Pm
def TokR (w : World) (tg : Nat) (all : List Tk) : Prop := ∀ (k : Nat) (t : Tk), all[k]? = some t → w.cell? ⟨tg, 3 * k, none⟩ = some (.int .i64 t.kind) ∧ w.cell? ⟨tg, 3 * k + 1, none⟩ = some (.string (tkS t)) ∧ w.cell? ⟨tg, 3 * k + 2, none⟩ = some (.int .i64 t.pl)
def powT : List Nat := [4607182418800017408, 4621819117588971520, 4636737291354636288, 4652007308841189376, 4666723172467343360, 4681608360884174848, 4696837146684686336, 4711630319722168320, 4726483295884279808]
structure GlB (w : World) (b : Nat) : Prop where
  low : 14 < b
  opt : w.cell? ⟨10, 0, none⟩ = some (.bool true)
  man : w.cell? ⟨11, 0, none⟩ = some (.int .u64 52)
  pow : ∃ g o n c, w.cell? ⟨14, 0, none⟩ = some (.slice (some ⟨g, o, none⟩) n c) ∧ 9 ≤ n ∧ g < b ∧ ∀ j v, powT[j]? = some v → w.cell? ⟨g, o + j, none⟩ = some (.float .f64 v)
theorem GlB.below {w w' : World} {b : Nat} (h : GlB w b) (hk : ∀ i, i < b → i < w.heap.size → w'.heap[i]? = w.heap[i]?) : GlB w' b := by
  have hl := h.low
  refine ⟨h.low, cell_same h.opt (hk _ (by omega) (cell_lt h.opt)), cell_same h.man (hk _ (by omega) (cell_lt h.man)), ?_⟩
  obtain ⟨g, o, n, c, h1, h2, h3, h4⟩ := h.pow
  exact ⟨g, o, n, c, cell_same h1 (hk _ (by omega) (cell_lt h1)), h2, h3, fun j v hj => cell_same (h4 j v hj) (hk _ h3 (cell_lt (h4 j v hj)))⟩
theorem GlB.keptR {w w' : World} {b : Nat} {r : Option Nat} (h : GlB w b) (hg : w.grownBy w' r) (hr : ∀ k, r = some k → b ≤ k) : GlB w' b :=
  h.below fun i hi hs => hg.block i hs (fun e => by have := hr i e.symm; omega)
def PsA (w : World) (b tg cp : Nat) (all : List Tk) (p : Ps) : Prop := ∃ i pa, p.ws = all.drop i ∧ i ≤ all.length ∧ (0 < all.length ∧ all.length ≤ cp) ∧ cp ≤ maxLen ∧ (i < all.length → pa = some ⟨tg, 3 * i, none⟩) ∧ Blk w b 55 #[.slice pa (all.length - i) (cp - i), .int .i64 p.nodes, .int .i64 p.depth, .bool p.over] ∧ tg ≠ b ∧ TokR w tg all ∧ GlB w b
theorem TokR.kept {w w' : World} {tg : Nat} {all : List Tk} (h : TokR w tg all) (hg : w'.heap[tg]? = w.heap[tg]?) : TokR w' tg all := fun k t ht => by
  obtain ⟨h1, h2, h3⟩ := h k t ht
  exact ⟨cell_same h1 hg, cell_same h2 hg, cell_same h3 hg⟩
theorem PsA.kept {w w' : World} {b tg cp : Nat} {all : List Tk} {p : Ps} (h : PsA w b tg cp all p) (hg : w.grownBy w' none) : PsA w' b tg cp all p := by
  obtain ⟨i, pa, h1, h2, h3, h4, h5, h6, h7, h8, h9⟩ := h
  refine ⟨i, pa, h1, h2, h3, h4, h5, h6.kept hg (by simp), h7, fun k t ht => ?_, h9.keptR hg (by simp)⟩
  obtain ⟨q1, q2, q3⟩ := h8 k t ht
  exact ⟨hg.cell q1 (by simp), hg.cell q2 (by simp), hg.cell q3 (by simp)⟩
theorem PsA.tgl {w : World} {b tg cp : Nat} {all : List Tk} {p : Ps} (h : PsA w b tg cp all p) : tg < w.heap.size := by
  obtain ⟨i, pa, h1, h2, h3, h4, h5, h6, h7, h8, _⟩ := h
  exact cell_lt (h8 0 _ (List.getElem?_eq_getElem h3.1)).1
set_option maxRecDepth 100000 in
theorem next_any {b tg cp : Nat} {all : List Tk} {p : Ps} {t : Tk} {r : List Tk} (w : World) (hP : PsA w b tg cp all p) (hw : p.ws = t :: r) :
    Calls Tryz.prog 38 #[.pointer (some ⟨b, 0, none⟩)] w fun e w' => e = .returned (.agg #[.int .i64 t.kind, .string (tkS t), .int .i64 t.pl]) ∧ w.grownBy w' none := by
  obtain ⟨i, pa, h1, h2, h3, h4, h5, h6, h7, h8, _⟩ := hP
  rw [hw] at h1
  have hi : i < all.length := by
    apply Nat.lt_of_not_le
    intro h
    rw [List.drop_eq_nil_of_le h] at h1
    cases h1
  have ht : all[i]? = some t := by
    have := congrArg List.head? h1
    rw [List.head?_drop] at this
    exact this.symm
  obtain ⟨q1, q2, q3⟩ := h8 i t ht
  obtain rfl := h5 hi
  have c0 := h6.cell 0
  simp at c0
  obtain ⟨n, hn⟩ : ∃ n, all.length - i = n + 1 := ⟨all.length - i - 1, by omega⟩
  rw [hn] at c0
  have hl := h6.lt
  have htg := cell_lt q1
  generalize cp - i = c at *
  clear h1 h2 h3 h4 h5 h6 h8 ht hn hi hw
  generalize 3 * i = o at *
  go_enter Tryz.func38, Tryz.ntmps38
  go_wp2
  exact bodyPost_ret (v := .agg #[.int .i64 t.kind, .string (tkS t), .int .i64 t.pl]) (by simp [results, Tryz.results38, go_sem]) rfl ⟨rfl, grown_alloc (grown_refl w none) _⟩
theorem fld0 (x y z : Value) (w : World) : (Instr.field 88 (.agg #[x, y, z]) 0).run Tryz.prog w = .ok x w := by kernel_rfl
theorem fld1 (x y z : Value) (w : World) : (Instr.field 88 (.agg #[x, y, z]) 1).run Tryz.prog w = .ok y w := by kernel_rfl
theorem fld2 (x y z : Value) (w : World) : (Instr.field 88 (.agg #[x, y, z]) 2).run Tryz.prog w = .ok z w := by kernel_rfl
set_option maxRecDepth 100000 in
theorem sees_any {b tg cp : Nat} {all : List Tk} {p : Ps} {t : Tk} {r : List Tk} (s : List UInt8) (w : World) (hP : PsA w b tg cp all p) (hw : p.ws = t :: r) :
    Calls Tryz.prog 39 #[.pointer (some ⟨b, 0, none⟩), .string ⟨s.toArray⟩] w fun e w' => e = .returned (.bool (t.s == s)) ∧ w.grownBy w' none := by
  have C38 := hid (next_any w hP hw)
  clear hP hw
  unfold tkS at C38
  have f1 := fld1
  go_enter Tryz.func39, Tryz.ntmps39
  go_wp2_with (first
    | (go_at_call 38; refine C38.out.mono ?_; rintro e w1 ⟨rfl, g1⟩; have G1 := hid g1; clear g1 C38))
  go_ret
  exact ⟨rfl, G1.out⟩
set_option maxRecDepth 100000 in
theorem fail_any {b tg cp : Nat} {all : List Tk} {p : Ps} {t : Tk} {r : List Tk} (n : Nat) (w : World) (hP : PsA w b tg cp all p) (hw : p.ws = t :: r) :
    Calls Tryz.prog 82 #[.pointer (some ⟨b, 0, none⟩), .int .i64 n] w fun e w' => e = .panicked [{ v := .iface 52 (.agg #[.int .i64 t.pl, .int .i64 n]), recovered := false }] ∧ w.grownBy w' none := by
  have C38 := hid (next_any w hP hw)
  clear hP hw
  have f2 := fld2
  go_enter Tryz.func82, Tryz.ntmps82
  go_wp2_with (first
    | (go_at_call 38; refine C38.out.mono ?_; rintro e w1 ⟨rfl, g1⟩; have G1 := hid g1; clear g1 C38))
  exact ⟨rfl, rfl, G1.out⟩
def FlV (at_ n : Nat) : List PanicEntry := [{ v := .iface 52 (.agg #[.int .i64 at_, .int .i64 n]), recovered := false }]
def PrP {α : Type} (V : World → α → Value → Prop) (b tg cp : Nat) (all : List Tk) (w : World) (x : Rs α) (e : Ending) (w' : World) : Prop := match x with
  | .ok (a, p) => ∃ v, e = .returned v ∧ V w' a v ∧ PsA w' b tg cp all p ∧ w.grownBy w' (some b)
  | .error (some (at_, n)) => e = .panicked (FlV at_ n) ∧ w.grownBy w' (some b)
  | .error none => True
def uV (_ : World) (_ : Unit) (v : Value) : Prop := v = .tuple #[]
def sV (_ : World) (s : ByteArray) (v : Value) : Prop := v = .string s
def iV (_ : World) (n : Int) (v : Value) : Prop := v = .int .i64 n
def nV (base : Nat) (w : World) (n : Nd) (v : Value) : Prop := NdV w (fun g => base ≤ g) v n
theorem grown_b {w w' : World} {b : Nat} (h : w.grownBy w' none) : w.grownBy w' (some b) := ⟨h.os, h.tape, h.output, h.size, fun i hi _ => h.block i hi (by simp)⟩
theorem grown_bb {w w' w'' : World} {b : Nat} (h : w.grownBy w' (some b)) (g : w'.grownBy w'' (some b)) : w.grownBy w'' (some b) :=
  ⟨g.os.trans h.os, g.tape.trans h.tape, g.output.trans h.output, Nat.le_trans h.size g.size, fun i hi hn => (g.block i (Nat.lt_of_lt_of_le hi h.size) hn).trans (h.block i hi hn)⟩
theorem PsA.cons {w : World} {b tg cp : Nat} {all : List Tk} {p : Ps} {t : Tk} {r : List Tk} (h : PsA w b tg cp all p) (hw : p.ws = t :: r) : ∃ i, i < all.length ∧ p.ws = all.drop i ∧ all.length ≤ cp ∧ cp ≤ maxLen ∧ Blk w b 55 #[.slice (some ⟨tg, 3 * i, none⟩) (all.length - i) (cp - i), .int .i64 p.nodes, .int .i64 p.depth, .bool p.over] ∧ tg ≠ b ∧ TokR w tg all ∧ GlB w b := by
  obtain ⟨i, pa, h1, h2, h3, h4, h5, h6, h7, h8, h9⟩ := h
  have hi : i < all.length := by
    apply Nat.lt_of_not_le
    intro h
    rw [List.drop_eq_nil_of_le h] at h1
    rw [hw] at h1
    cases h1
  obtain rfl := h5 hi
  exact ⟨i, hi, h1, h3.2, h4, h6, h7, h8, h9⟩
theorem drop_tail {all : List Tk} {i : Nat} {t : Tk} {r : List Tk} (h : t :: r = all.drop i) : r = all.drop (i + 1) := by
  have := congrArg List.tail h
  rw [List.tail_drop] at this
  exact this
set_option maxRecDepth 100000 in
theorem pass_any {b tg cp : Nat} {all : List Tk} {p : Ps} (w : World) (hP : PsA w b tg cp all p) (hx : passP p ≠ .error none) :
    Calls Tryz.prog 43 #[.pointer (some ⟨b, 0, none⟩)] w (PrP uV b tg cp all w (passP p)) := by
  match hw : p.ws with
  | [] => exact absurd (by unfold passP; rw [hw]) hx
  | t :: r =>
    have C82 := hid (fail_any 3 w hP hw)
    obtain ⟨i, hi, h1, h3, h4, h6, h7, h8, h9⟩ := hP.cons hw
    have c0 := h6.cell 0
    have c3 := h6.cell 3
    simp at c0 c3
    have f0 := h6.frozen 0
    cases ho : p.over with
    | true =>
      have e : passP p = .error (some (t.pl, 3)) := by unfold passP; rw [hw]; simp [ho]
      rw [e]
      rw [ho] at c3
      clear c0 hx e h6 h8 h9 h1
      go_enter Tryz.func43, Tryz.ntmps43
      go_wp2_with (first
        | (go_at_call 82; refine C82.out.mono ?_; rintro e w1 ⟨rfl, g1⟩; have G1 := hid g1; clear g1 C82))
      exact ⟨rfl, rfl, grown_b G1.out⟩
    | false =>
      have e : passP p = .ok ((), { p with ws := r }) := by unfold passP; rw [hw]; simp [ho]
      rw [e]
      rw [ho] at c3
      have H6 := hid h6
      have H8 := hid h8
      have H9 := hid h9
      have hl := h6.lt
      rw [hw] at h1
      obtain ⟨n, hn⟩ : ∃ n, all.length - i = n + 1 := ⟨all.length - i - 1, by omega⟩
      obtain ⟨c, hc⟩ : ∃ c, cp - i = c + 1 := ⟨cp - i - 1, by omega⟩
      rw [hn, hc] at c0
      have hnc : n ≤ c := by omega
      have HX : Hid (∀ pa, (i + 1 < all.length → pa = some ⟨tg, 3 * (i + 1), none⟩) → PrP uV b tg cp all w (.ok ((), { p with ws := r })) (.returned (.tuple #[])) (w.setCell ⟨b, 0, none⟩ (.slice pa n c))) := fun pa hpa => by
        refine ⟨_, rfl, rfl, ⟨i + 1, pa, drop_tail h1, by omega, ⟨by omega, h3⟩, h4, hpa, ?_, h7, H8.out.kept (heap_setCell_other _ _ _ _ h7), H9.out.keptR (grown_set (grown_refl w (some b)) 0 _) (fun k e => by injection e with e; omega)⟩, grown_set (grown_refl w (some b)) _ _⟩
        have hs := H6.out.set 0 (.slice pa n c)
        rw [show all.length - (i + 1) = n by omega, show cp - (i + 1) = c by omega]
        simpa using hs
      have HN := hid (And.intro hn trivial)
      generalize ho3 : 3 * i = o at *
      have HO := hid (And.intro ho3 trivial)
      clear ho ho3 hn hc h1 h3 h4 h6 h7 h8 h9 C82 hx e H6 H8 H9
      rcases Nat.eq_zero_or_pos c with hc0 | hc0
      · subst hc0
        obtain rfl : n = 0 := by omega
        go_enter Tryz.func43, Tryz.ntmps43
        go_wp2_with fail
        go_end0
        exact HX.out _ (fun h => by have h1 := HN.out.1; omega)
      · have hc1 : ¬ c = 0 := by omega
        go_enter Tryz.func43, Tryz.ntmps43
        go_wp2_with fail
        go_end0
        refine HX.out _ (fun h => ?_)
        have h2 := HO.out.1
        rw [show 3 * (i + 1) = o + 3 by omega]
theorem PsA.blk {w : World} {b tg cp : Nat} {all : List Tk} {p : Ps} (h : PsA w b tg cp all p) : ∃ sl, Blk w b 55 #[sl, .int .i64 p.nodes, .int .i64 p.depth, .bool p.over] ∧ (∃ pa n c, sl = .slice pa n c) ∧ ∀ w' q, q.ws = p.ws → Blk w' b 55 #[sl, .int .i64 q.nodes, .int .i64 q.depth, .bool q.over] → w.grownBy w' (some b) → PsA w' b tg cp all q := by
  obtain ⟨i, pa, h1, h2, h3, h4, h5, h6, h7, h8, h9⟩ := h
  refine ⟨_, h6, ⟨_, _, _, rfl⟩, fun w' q hq hb hg => ⟨i, pa, hq.trans h1, h2, h3, h4, h5, hb, h7, fun k t ht => ?_, h9.keptR hg (fun k e => by injection e with e; omega)⟩⟩
  obtain ⟨q1, q2, q3⟩ := h8 k t ht
  have hne : some tg ≠ some b := fun e => h7 (Option.some.inj e)
  exact ⟨hg.cell q1 hne, hg.cell q2 hne, hg.cell q3 hne⟩
theorem PsA.gl {w : World} {b tg cp : Nat} {all : List Tk} {p : Ps} (h : PsA w b tg cp all p) : GlB w b := by
  obtain ⟨i, pa, h1, h2, h3, h4, h5, h6, h7, h8, h9⟩ := h
  exact h9
set_option maxRecDepth 100000 in
theorem room_any {b tg cp : Nat} {all : List Tk} {p : Ps} (h m : Nat) (w : World) (hP : PsA w b tg cp all p) :
    Calls Tryz.prog 40 #[.pointer (some ⟨b, 0, none⟩), .int .i64 h, .int .i64 m] w (PrP uV b tg cp all w (roomP h m p)) := by
  obtain ⟨sl, hB, _, hK⟩ := hP.blk
  have f3 := hB.frozen 3
  have c3 := hB.cell 3
  simp at c3
  by_cases hm : m ≤ h
  · have e : roomP h m p = .ok ((), { p with over := true }) := by unfold roomP; rw [if_pos hm]
    rw [e]
    have hm' : (m : Int) ≤ h := by omega
    have K1 : Hid (PrP uV b tg cp all w (.ok ((), { p with over := true })) (.returned (.tuple #[])) (w.setCell ⟨b, 3, none⟩ (.bool true))) := ⟨_, rfl, rfl, hK _ _ rfl (by have := hB.set 3 (.bool true); simpa using this) (grown_set (grown_refl w (some b)) _ _), grown_set (grown_refl w (some b)) _ _⟩
    clear hK hB hP e
    go_enter Tryz.func40, Tryz.ntmps40
    go_wp2_with fail
    go_end0
    exact K1.out
  · have e : roomP h m p = .ok ((), p) := by unfold roomP; rw [if_neg hm]
    rw [e]
    have hm' : ¬ (m : Int) ≤ h := by omega
    have K1 : Hid (PrP uV b tg cp all w (.ok ((), p)) (.returned (.tuple #[])) w) := ⟨_, rfl, rfl, hP, grown_refl w (some b)⟩
    clear hK hB hP e
    go_enter Tryz.func40, Tryz.ntmps40
    go_wp2_with fail
    go_end0
    exact K1.out
end Pm
end Go.Proofs.YtajoncmmdeahnaaGreatDoor
