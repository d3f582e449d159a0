/-
  A row of nodes that grows by append. The parser's smallest steps: next, sees, room, fail, pass, want, name, typed, made. The parser's small steps: made, want, name, typed, open, shut. The parser's small steps: name, typed, open, shut. The parser's small steps: typed. The parser: parameter, bracketed.
-/
import Derived.Test.YtajoncmmdeahnaaGreatDoorKCb
import Derived.Deep.RegionLaw
import Derived.Test.YtajoncmmdeahnaaGreatDoorKPm
namespace Go.Proofs.YtajoncmmdeahnaaGreatDoor
open Go.RowKit
theorem owns_cases5 {w : World} {base : Nat} {e : TypeId} {sz : Nat} {v : Value} {n : Nat} {xs : List Value} (h : w.ownsRow base e sz v n xs) :
    (v = .slice none 0 0 ∧ n = 0 ∧ xs = []) ∨ ∃ g cap cur, v = .slice (some ⟨g, 0, none⟩) n cap ∧ base ≤ g ∧ Blk w g e cur ∧ n ≤ cap ∧ cap ≤ maxLen ∧ cur.size = cap * sz ∧ cur.toList.take (n * sz) = xs ∧ xs.length = n * sz := by
  obtain ⟨h1, h2⟩ := h
  rcases h2 with ⟨rfl, h3⟩ | ⟨g, cap, cur, rfl, hb, hg, hn, hc, hs, hx⟩
  · left
    refine ⟨rfl, h3, List.eq_nil_of_length_eq_zero ?_⟩
    rw [h1, h3, Nat.zero_mul]
  · exact Or.inr ⟨g, cap, cur, rfl, hb, hg, hn, hc, hs, hx, h1⟩
theorem append_where5 {P : Program} {w : World} (base : Nat) (t ty e : TypeId) (i : TypeInfo) (z : Value) (bytes : Nat) (ht : P.underlying t = some (.slice e)) (hi : P.info? e = some i) (hz : i.zero = some z) (hsize : i.size = 5) (hby : i.bytes = bytes) (hzs : z.cells.size = 5)
    (v : Value) (n : Nat) (xs : List Value) (hown : w.ownsRow base e 5 v n xs) (ad : Addr) (m c : Nat) (news : List Value) (hm : 0 < m) (hl : news.length = m * 5) (hnews : ∀ j u, news[j]? = some u → w.cell? (ad.add j) = some u) (h1 : ∀ u ∈ news, u.oneCell' = true)
    (h63 : n + m ≤ 10000000) (hb : bytes ≤ 1000) (hbase : base ≤ w.heap.size) :
    ∃ v' w', (Builtin.append_ #[t, t] ty #[v, .slice (some ad) m c]).run P w = .ok v' w' ∧ w'.ownsRow base e 5 v' (n + m) (xs ++ news) ∧ w.grownBy w' v.ownBlock ∧ (v'.ownBlock = v.ownBlock ∨ v'.ownBlock = some w.heap.size) := by
  have hbytes : (n + m) * bytes ≤ 140737488355328 := Nat.le_trans (Nat.mul_le_mul h63 hb) (by decide)
  obtain ⟨v', w', hr, h2, h3, h4⟩ := run_append_own (P := P) w base t ty e i z 5 bytes ht hi hz hsize hby hzs (by decide) v n xs hown ad m c news hl hnews h1 (by unfold maxLen; omega) hbytes hbase
  refine ⟨v', w', hr, h2, h3, ?_⟩
  subst hby
  rcases owns_cases5 hown with ⟨rfl, rfl, rfl⟩ | ⟨g, cap, cur, rfl, hg, hB, hn, hc, hs, hx, hl1⟩
  · have e0 := run_append_nil (P := P) w t ty e i z ht hi hz ad m c news (by rw [hsize]; exact hl) hnews (by omega) (by omega) (by have hb' := hbytes; simp only [Nat.zero_add] at hb'; omega)
    rw [e0] at hr
    injection hr with e1 e2
    subst e1
    exact Or.inr rfl
  · by_cases hroom : n + m ≤ cap
    · have e0 := run_append_room (P := P) w t ty e i ht hi g n cap cur hB ad m c news (by rw [hsize]; exact hl) hnews h1 hroom (by rw [hsize]; have := Nat.mul_le_mul_right 5 hroom; omega)
      rw [e0] at hr
      injection hr with e1 e2
      subst e1
      exact Or.inl rfl
    · have holds : ∀ j q, xs[j]? = some q → w.cell? ((⟨g, 0, none⟩ : Addr).add j) = some q := hown.cells (g := g) rfl
      have e0 := run_append_grow (P := P) w t ty e i z ht hi hz ⟨g, 0, none⟩ n cap xs (by rw [hsize]; omega) holds ad m c news (by rw [hsize]; exact hl) hnews (by omega) (by omega) (growslice_fits (by omega) hbytes)
      rw [e0] at hr
      injection hr with e1 e2
      subst e1
      exact Or.inr rfl
def Kb (w : World) (base : Nat) (e : TypeId) (v : Value) (ks : List Nd) : Prop := ∃ cs, w.ownsRow base e 5 v ks.length cs ∧ CellsN w (fun b => base ≤ b ∧ some b ≠ v.ownBlock) cs ks ∧ (ks = [] → v = .slice none 0 0)
theorem Kb.nil (w : World) (base : Nat) (e : TypeId) : Kb w base e (.slice none 0 0) [] := ⟨[], World.ownsRow_nil w base e 5, rfl, fun _ => rfl⟩
theorem Kb.kept {w w' : World} {base : Nat} {e : TypeId} {v : Value} {ks : List Nd} {row : Option Nat} (h : Kb w base e v ks) (hg : w.grownBy w' row) (hr : ∀ r, row = some r → r < base) : Kb w' base e v ks := by
  obtain ⟨cs, h1, h2, h3⟩ := h
  refine ⟨cs, h1.kept hg ?_, h2.keptP (Kp.of_grown hg (fun b hb e => by have := hr b e.symm; omega)) (fun _ h _ => h), h3⟩
  cases hv : v.ownBlock with
  | none => exact Or.inl rfl
  | some g =>
    refine Or.inr (fun e => ?_)
    have h3 := hr g e.symm
    have h4 := (h1.lt g hv).1
    omega
theorem Kb.form {w : World} {base : Nat} {e : TypeId} {v : Value} {ks : List Nd} (h : Kb w base e v ks) : ∃ p cap, v = .slice p ks.length cap ∧ ks.length ≤ cap ∧ cap ≤ maxLen := by
  obtain ⟨cs, h1, _⟩ := h
  rcases owns_cases5 h1 with ⟨rfl, hn, _⟩ | ⟨g, cap, cur, rfl, _, _, hn, hc, _⟩
  · exact ⟨none, 0, by rw [hn], by omega, Nat.zero_le _⟩
  · exact ⟨_, cap, rfl, hn, hc⟩
theorem addr_at (g o j : Nat) : (⟨g, o, none⟩ : Addr).add j = ⟨g, o + j, none⟩ := by unfold Addr.add; split <;> simp_all
theorem Kb.ks {w : World} {base : Nat} {e : TypeId} {v : Value} {ks : List Nd} (h : Kb w base e v ks) : KsV w (fun b => base ≤ b) v ks := by
  obtain ⟨cs, h1, h2, h3⟩ := h
  have h2' := h2.keptP (w' := w) (Q := fun b => base ≤ b) (fun _ _ _ => rfl) (fun b h _ => h.1)
  rcases owns_cases5 h1 with ⟨rfl, hn, _⟩ | ⟨g, cap, cur, rfl, hg, hB, hn, hcm, hs, hx, hl⟩
  · obtain rfl : ks = [] := List.length_eq_zero_iff.1 hn
    exact KsV.nil _ _
  · by_cases h0 : ks.length = 0
    · obtain rfl : ks = [] := List.length_eq_zero_iff.1 h0
      rw [h3 rfl]
      exact KsV.nil _ _
    · exact ⟨g, Or.inr ⟨by omega, hg, cap, rfl, hn, hcm⟩, h2'.row (fun j u hj => by have := h1.cells (g := g) rfl j u hj; rw [addr_at] at this; exact this)⟩
def zNd : Value := .agg #[.int .i64 0, .int .i64 0, .string ⟨#[]⟩, .int .i64 0, .slice none 0 0]
def NdC (w : World) (ad : Addr) (y : Nd) (q : Value) : Prop := ∀ j u, [Value.int .i64 y.kind, .int .i64 y.ty, .string y.txt, .int .i64 y.num, q][j]? = some u → w.cell? (ad.add j) = some u
theorem NdC.new (w : World) (e : TypeId) (y : Nd) (q : Value) : NdC (w.alloc (.cells #[.int .i64 y.kind, .int .i64 y.ty, .string y.txt, .int .i64 y.num, q] e)) ⟨w.heap.size, 0, none⟩ y q := fun j u h => by
  rw [addr_at, Nat.zero_add, (Blk.new w e _).cell]
  simpa using h
theorem append_run (t e ty : TypeId) (ht : Tryz.prog.underlying t = some (.slice e)) (hI : (Tryz.prog.info? e).map (fun i => (i.zero, i.size, i.bytes)) = some (some zNd, 5, 64)) (base : Nat) (v : Value) (ks : List Nd) (y : Nd) (q : Value) (ad : Addr) (c : Nat) (w : World)
    (hb : Kb w base e v ks) (hc : NdC w ad y q) (hq : KsV w (fun b => base ≤ b ∧ some b ≠ v.ownBlock) q y.kids) (hl : ks.length < 100000) (hbase : base ≤ w.heap.size) :
    ∃ v' w', (Builtin.append_ #[t, t] ty #[v, .slice (some ad) 1 c]).run Tryz.prog w = .ok v' w' ∧ Kb w' base e v' (ks ++ [y]) ∧ w.grownBy w' v.ownBlock := by
  obtain ⟨i5, hi, hz0, hz1, hz2⟩ := info_parts hI
  obtain ⟨cs, h1, h2, _⟩ := hb
  obtain ⟨v', w', hr, h3, h4, h5⟩ := append_where5 (P := Tryz.prog) base t ty e i5 zNd 64 ht hi hz0 hz1 hz2 rfl v ks.length cs h1 ad 1 c [.int .i64 y.kind, .int .i64 y.ty, .string y.txt, .int .i64 y.num, q] (by decide) rfl hc (fun u hu => by
    simp only [List.mem_cons, List.not_mem_nil, or_false] at hu
    obtain ⟨p, cap, eq, _⟩ := hq.form
    rcases hu with rfl | rfl | rfl | rfl | rfl
    · rfl
    · rfl
    · rfl
    · rfl
    · rw [eq]; rfl) (by omega) (by decide) hbase
  have hK : Kp w w' (fun b => base ≤ b ∧ some b ≠ v.ownBlock) := Kp.of_grown h4 (fun b hb => hb.2)
  have hm : ∀ b, (base ≤ b ∧ some b ≠ v.ownBlock) → b < w.heap.size → (base ≤ b ∧ some b ≠ v'.ownBlock) := fun b hb hlt => ⟨hb.1, fun e => by
    rcases h5 with h5 | h5
    · exact hb.2 (by rw [e, h5])
    · rw [h5] at e
      have := Option.some.inj e
      omega⟩
  refine ⟨v', w', hr, ⟨_, ?_, CellsN.snoc (hq.keptP hK hm) (h2.keptP hK hm), fun e => ?_⟩, h4⟩
  · rw [List.length_append]; exact h3
  · simp at e
theorem step_nd {ops : Array Oper} {o : Oper} {a : Act} {w : World} {K : Act → World → Prop} {Q : Exit → Act → World → Prop} {E : Prop} (t e : TypeId) (ht : Tryz.prog.underlying t = some (.slice e)) (hI : (Tryz.prog.info? e).map (fun i => (i.zero, i.size, i.bytes)) = some (some zNd, 5, 64))
    (s x : Operand) (hg : o.guard = none) (ho : o.op = Op.call { callee := Callee.builtin Builtin.append, args := #[s, x], argTypes := #[t, t] }) (base : Nat) (v : Value) (ks : List Nd) (y : Nd) (q : Value) (ad : Addr) (c : Nat)
    (hb : Kb w base e v ks) (hc : NdC w ad y q) (hq : KsV w (fun b => base ≤ b ∧ some b ≠ v.ownBlock) q y.kids) (hl : ks.length < 100000) (hbase : base ≤ w.heap.size) (hs : a.eval s = v) (hx : a.eval x = .slice (some ad) 1 c)
    (hK : ∀ v' w', Kb w' base e v' (ks ++ [y]) → w.grownBy w' v.ownBlock → K (a.put o.dst v') w') :
    if Region.wanted o (yielded ops a.tmps) = true then Oper.wp Tryz.prog o a w K Q else E := by
  have hw : Region.wanted o (yielded ops a.tmps) = true := by simp [Region.wanted, hg]
  rw [if_pos hw]
  obtain ⟨v', w', hr, h2, h3⟩ := append_run t e o.type ht hI base v ks y q ad c w hb hc hq hl hbase
  unfold Oper.wp execOp
  simp only [ho, resolve, invoke, builtin, Sem.run_bind, Sem.run_pure, Result.andThen_ok, List.map_toArray, List.map_cons, List.map_nil, hs, hx, hr]
  exact hK v' w' h2 h3
theorem grown_ob' {a b c : World} {ob : Option Nat} {row : Option Nat} (h : a.grownBy b row) (g : b.grownBy c ob) (hk : ∀ x, ob = some x → a.heap.size ≤ x) : a.grownBy c row :=
  ⟨g.os.trans h.os, g.tape.trans h.tape, g.output.trans h.output, Nat.le_trans h.size g.size, fun i hi hn => (g.block i (Nat.lt_of_lt_of_le hi h.size) (fun e => by have := hk i e.symm; omega)).trans (h.block i hi hn)⟩
theorem Kb.lt {w : World} {base : Nat} {e : TypeId} {v : Value} {ks : List Nd} (h : Kb w base e v ks) : ∀ r, v.ownBlock = some r → base ≤ r ∧ r < w.heap.size := fun r hr => by
  obtain ⟨cs, h1, _⟩ := h
  exact h1.lt r hr
theorem row_under {w : World} {base : Nat} {e : TypeId} {v : Value} {ks : List Nd} (h : Kb w base e v ks) : ∀ r, v.ownBlock = some r → base ≤ r := fun r hr => by
  obtain ⟨cs, h1, _⟩ := h
  exact (h1.lt r hr).1
end Go.Proofs.YtajoncmmdeahnaaGreatDoor
namespace Go.Proofs.YtajoncmmdeahnaaGreatDoor
open Go.RowKit
namespace Pm
def TokR (w : World) (tg : Nat) (all : List Tk) : Prop := ∀ (k : Nat) (t : Tk), all[k]? = some t → w.cell? ⟨tg, 3 * k, none⟩ = some (.int .i64 t.kind) ∧ w.cell? ⟨tg, 3 * k + 1, none⟩ = some (.string (tkS t)) ∧ w.cell? ⟨tg, 3 * k + 2, none⟩ = some (.int .i64 t.pl)
def powT : List Nat := [4607182418800017408, 4621819117588971520, 4636737291354636288, 4652007308841189376, 4666723172467343360, 4681608360884174848, 4696837146684686336, 4711630319722168320, 4726483295884279808]
structure GlB (w : World) (b : Nat) : Prop where
  low : 14 < b
  opt : w.cell? ⟨10, 0, none⟩ = some (.bool true)
  man : w.cell? ⟨11, 0, none⟩ = some (.int .u64 52)
  pow : ∃ g o n c, w.cell? ⟨14, 0, none⟩ = some (.slice (some ⟨g, o, none⟩) n c) ∧ 9 ≤ n ∧ g < b ∧ ∀ j v, powT[j]? = some v → w.cell? ⟨g, o + j, none⟩ = some (.float .f64 v)
theorem GlB.below {w w' : World} {b : Nat} (h : GlB w b) (hk : ∀ i, i < b → i < w.heap.size → w'.heap[i]? = w.heap[i]?) : GlB w' b := by
  have hl := h.low
  refine ⟨h.low, cell_same h.opt (hk _ (by omega) (cell_lt h.opt)), cell_same h.man (hk _ (by omega) (cell_lt h.man)), ?_⟩
  obtain ⟨g, o, n, c, h1, h2, h3, h4⟩ := h.pow
  exact ⟨g, o, n, c, cell_same h1 (hk _ (by omega) (cell_lt h1)), h2, h3, fun j v hj => cell_same (h4 j v hj) (hk _ h3 (cell_lt (h4 j v hj)))⟩
theorem GlB.keptR {w w' : World} {b : Nat} {r : Option Nat} (h : GlB w b) (hg : w.grownBy w' r) (hr : ∀ k, r = some k → b ≤ k) : GlB w' b :=
  h.below fun i hi hs => hg.block i hs (fun e => by have := hr i e.symm; omega)
def PsA (w : World) (b tg cp : Nat) (all : List Tk) (p : Ps) : Prop := ∃ i pa, p.ws = all.drop i ∧ i ≤ all.length ∧ (0 < all.length ∧ all.length ≤ cp) ∧ cp ≤ maxLen ∧ (i < all.length → pa = some ⟨tg, 3 * i, none⟩) ∧ Blk w b 55 #[.slice pa (all.length - i) (cp - i), .int .i64 p.nodes, .int .i64 p.depth, .bool p.over] ∧ tg ≠ b ∧ TokR w tg all ∧ GlB w b
theorem TokR.kept {w w' : World} {tg : Nat} {all : List Tk} (h : TokR w tg all) (hg : w'.heap[tg]? = w.heap[tg]?) : TokR w' tg all := fun k t ht => by
  obtain ⟨h1, h2, h3⟩ := h k t ht
  exact ⟨cell_same h1 hg, cell_same h2 hg, cell_same h3 hg⟩
theorem PsA.kept {w w' : World} {b tg cp : Nat} {all : List Tk} {p : Ps} (h : PsA w b tg cp all p) (hg : w.grownBy w' none) : PsA w' b tg cp all p := by
  obtain ⟨i, pa, h1, h2, h3, h4, h5, h6, h7, h8, h9⟩ := h
  refine ⟨i, pa, h1, h2, h3, h4, h5, h6.kept hg (by simp), h7, fun k t ht => ?_, h9.keptR hg (by simp)⟩
  obtain ⟨q1, q2, q3⟩ := h8 k t ht
  exact ⟨hg.cell q1 (by simp), hg.cell q2 (by simp), hg.cell q3 (by simp)⟩
theorem PsA.tgl {w : World} {b tg cp : Nat} {all : List Tk} {p : Ps} (h : PsA w b tg cp all p) : tg < w.heap.size := by
  obtain ⟨i, pa, h1, h2, h3, h4, h5, h6, h7, h8, _⟩ := h
  exact cell_lt (h8 0 _ (List.getElem?_eq_getElem h3.1)).1
set_option maxRecDepth 100000 in
theorem next_any {b tg cp : Nat} {all : List Tk} {p : Ps} {t : Tk} {r : List Tk} (w : World) (hP : PsA w b tg cp all p) (hw : p.ws = t :: r) :
    Calls Tryz.prog 38 #[.pointer (some ⟨b, 0, none⟩)] w fun e w' => e = .returned (.agg #[.int .i64 t.kind, .string (tkS t), .int .i64 t.pl]) ∧ w.grownBy w' none := by
  obtain ⟨i, pa, h1, h2, h3, h4, h5, h6, h7, h8, _⟩ := hP
  rw [hw] at h1
  have hi : i < all.length := by
    apply Nat.lt_of_not_le
    intro h
    rw [List.drop_eq_nil_of_le h] at h1
    cases h1
  have ht : all[i]? = some t := by
    have := congrArg List.head? h1
    rw [List.head?_drop] at this
    exact this.symm
  obtain ⟨q1, q2, q3⟩ := h8 i t ht
  obtain rfl := h5 hi
  have c0 := h6.cell 0
  simp at c0
  obtain ⟨n, hn⟩ : ∃ n, all.length - i = n + 1 := ⟨all.length - i - 1, by omega⟩
  rw [hn] at c0
  have hl := h6.lt
  have htg := cell_lt q1
  generalize cp - i = c at *
  clear h1 h2 h3 h4 h5 h6 h8 ht hn hi hw
  generalize 3 * i = o at *
  go_enter Tryz.func38, Tryz.ntmps38
  go_wp2
  exact bodyPost_ret (v := .agg #[.int .i64 t.kind, .string (tkS t), .int .i64 t.pl]) (by simp [results, Tryz.results38, go_sem]) rfl ⟨rfl, grown_alloc (grown_refl w none) _⟩
theorem fld0 (x y z : Value) (w : World) : (Instr.field 88 (.agg #[x, y, z]) 0).run Tryz.prog w = .ok x w := by kernel_rfl
theorem fld1 (x y z : Value) (w : World) : (Instr.field 88 (.agg #[x, y, z]) 1).run Tryz.prog w = .ok y w := by kernel_rfl
theorem fld2 (x y z : Value) (w : World) : (Instr.field 88 (.agg #[x, y, z]) 2).run Tryz.prog w = .ok z w := by kernel_rfl
set_option maxRecDepth 100000 in
theorem sees_any {b tg cp : Nat} {all : List Tk} {p : Ps} {t : Tk} {r : List Tk} (s : List UInt8) (w : World) (hP : PsA w b tg cp all p) (hw : p.ws = t :: r) :
    Calls Tryz.prog 39 #[.pointer (some ⟨b, 0, none⟩), .string ⟨s.toArray⟩] w fun e w' => e = .returned (.bool (t.s == s)) ∧ w.grownBy w' none := by
  have C38 := hid (next_any w hP hw)
  clear hP hw
  unfold tkS at C38
  have f1 := fld1
  go_enter Tryz.func39, Tryz.ntmps39
  go_wp2_with (first
    | (go_at_call 38; refine C38.out.mono ?_; rintro e w1 ⟨rfl, g1⟩; have G1 := hid g1; clear g1 C38))
  go_ret
  exact ⟨rfl, G1.out⟩
set_option maxRecDepth 100000 in
theorem fail_any {b tg cp : Nat} {all : List Tk} {p : Ps} {t : Tk} {r : List Tk} (n : Nat) (w : World) (hP : PsA w b tg cp all p) (hw : p.ws = t :: r) :
    Calls Tryz.prog 82 #[.pointer (some ⟨b, 0, none⟩), .int .i64 n] w fun e w' => e = .panicked [{ v := .iface 52 (.agg #[.int .i64 t.pl, .int .i64 n]), recovered := false }] ∧ w.grownBy w' none := by
  have C38 := hid (next_any w hP hw)
  clear hP hw
  have f2 := fld2
  go_enter Tryz.func82, Tryz.ntmps82
  go_wp2_with (first
    | (go_at_call 38; refine C38.out.mono ?_; rintro e w1 ⟨rfl, g1⟩; have G1 := hid g1; clear g1 C38))
  exact ⟨rfl, rfl, G1.out⟩
def FlV (at_ n : Nat) : List PanicEntry := [{ v := .iface 52 (.agg #[.int .i64 at_, .int .i64 n]), recovered := false }]
def PrP {α : Type} (V : World → α → Value → Prop) (b tg cp : Nat) (all : List Tk) (w : World) (x : Rs α) (e : Ending) (w' : World) : Prop := match x with
  | .ok (a, p) => ∃ v, e = .returned v ∧ V w' a v ∧ PsA w' b tg cp all p ∧ w.grownBy w' (some b)
  | .error (some (at_, n)) => e = .panicked (FlV at_ n) ∧ w.grownBy w' (some b)
  | .error none => True
def uV (_ : World) (_ : Unit) (v : Value) : Prop := v = .tuple #[]
def sV (_ : World) (s : ByteArray) (v : Value) : Prop := v = .string s
def iV (_ : World) (n : Int) (v : Value) : Prop := v = .int .i64 n
def nV (base : Nat) (w : World) (n : Nd) (v : Value) : Prop := NdV w (fun g => base ≤ g) v n
theorem grown_b {w w' : World} {b : Nat} (h : w.grownBy w' none) : w.grownBy w' (some b) := ⟨h.os, h.tape, h.output, h.size, fun i hi _ => h.block i hi (by simp)⟩
theorem grown_bb {w w' w'' : World} {b : Nat} (h : w.grownBy w' (some b)) (g : w'.grownBy w'' (some b)) : w.grownBy w'' (some b) :=
  ⟨g.os.trans h.os, g.tape.trans h.tape, g.output.trans h.output, Nat.le_trans h.size g.size, fun i hi hn => (g.block i (Nat.lt_of_lt_of_le hi h.size) hn).trans (h.block i hi hn)⟩
theorem PsA.cons {w : World} {b tg cp : Nat} {all : List Tk} {p : Ps} {t : Tk} {r : List Tk} (h : PsA w b tg cp all p) (hw : p.ws = t :: r) : ∃ i, i < all.length ∧ p.ws = all.drop i ∧ all.length ≤ cp ∧ cp ≤ maxLen ∧ Blk w b 55 #[.slice (some ⟨tg, 3 * i, none⟩) (all.length - i) (cp - i), .int .i64 p.nodes, .int .i64 p.depth, .bool p.over] ∧ tg ≠ b ∧ TokR w tg all ∧ GlB w b := by
  obtain ⟨i, pa, h1, h2, h3, h4, h5, h6, h7, h8, h9⟩ := h
  have hi : i < all.length := by
    apply Nat.lt_of_not_le
    intro h
    rw [List.drop_eq_nil_of_le h] at h1
    rw [hw] at h1
    cases h1
  obtain rfl := h5 hi
  exact ⟨i, hi, h1, h3.2, h4, h6, h7, h8, h9⟩
theorem drop_tail {all : List Tk} {i : Nat} {t : Tk} {r : List Tk} (h : t :: r = all.drop i) : r = all.drop (i + 1) := by
  have := congrArg List.tail h
  rw [List.tail_drop] at this
  exact this
set_option maxRecDepth 100000 in
theorem pass_any {b tg cp : Nat} {all : List Tk} {p : Ps} (w : World) (hP : PsA w b tg cp all p) (hx : passP p ≠ .error none) :
    Calls Tryz.prog 43 #[.pointer (some ⟨b, 0, none⟩)] w (PrP uV b tg cp all w (passP p)) := by
  match hw : p.ws with
  | [] => exact absurd (by unfold passP; rw [hw]) hx
  | t :: r =>
    have C82 := hid (fail_any 3 w hP hw)
    obtain ⟨i, hi, h1, h3, h4, h6, h7, h8, h9⟩ := hP.cons hw
    have c0 := h6.cell 0
    have c3 := h6.cell 3
    simp at c0 c3
    have f0 := h6.frozen 0
    cases ho : p.over with
    | true =>
      have e : passP p = .error (some (t.pl, 3)) := by unfold passP; rw [hw]; simp [ho]
      rw [e]
      rw [ho] at c3
      clear c0 hx e h6 h8 h9 h1
      go_enter Tryz.func43, Tryz.ntmps43
      go_wp2_with (first
        | (go_at_call 82; refine C82.out.mono ?_; rintro e w1 ⟨rfl, g1⟩; have G1 := hid g1; clear g1 C82))
      exact ⟨rfl, rfl, grown_b G1.out⟩
    | false =>
      have e : passP p = .ok ((), { p with ws := r }) := by unfold passP; rw [hw]; simp [ho]
      rw [e]
      rw [ho] at c3
      have H6 := hid h6
      have H8 := hid h8
      have H9 := hid h9
      have hl := h6.lt
      rw [hw] at h1
      obtain ⟨n, hn⟩ : ∃ n, all.length - i = n + 1 := ⟨all.length - i - 1, by omega⟩
      obtain ⟨c, hc⟩ : ∃ c, cp - i = c + 1 := ⟨cp - i - 1, by omega⟩
      rw [hn, hc] at c0
      have hnc : n ≤ c := by omega
      have HX : Hid (∀ pa, (i + 1 < all.length → pa = some ⟨tg, 3 * (i + 1), none⟩) → PrP uV b tg cp all w (.ok ((), { p with ws := r })) (.returned (.tuple #[])) (w.setCell ⟨b, 0, none⟩ (.slice pa n c))) := fun pa hpa => by
        refine ⟨_, rfl, rfl, ⟨i + 1, pa, drop_tail h1, by omega, ⟨by omega, h3⟩, h4, hpa, ?_, h7, H8.out.kept (heap_setCell_other _ _ _ _ h7), H9.out.keptR (grown_set (grown_refl w (some b)) 0 _) (fun k e => by injection e with e; omega)⟩, grown_set (grown_refl w (some b)) _ _⟩
        have hs := H6.out.set 0 (.slice pa n c)
        rw [show all.length - (i + 1) = n by omega, show cp - (i + 1) = c by omega]
        simpa using hs
      have HN := hid (And.intro hn trivial)
      generalize ho3 : 3 * i = o at *
      have HO := hid (And.intro ho3 trivial)
      clear ho ho3 hn hc h1 h3 h4 h6 h7 h8 h9 C82 hx e H6 H8 H9
      rcases Nat.eq_zero_or_pos c with hc0 | hc0
      · subst hc0
        obtain rfl : n = 0 := by omega
        go_enter Tryz.func43, Tryz.ntmps43
        go_wp2_with fail
        go_end0
        exact HX.out _ (fun h => by have h1 := HN.out.1; omega)
      · have hc1 : ¬ c = 0 := by omega
        go_enter Tryz.func43, Tryz.ntmps43
        go_wp2_with fail
        go_end0
        refine HX.out _ (fun h => ?_)
        have h2 := HO.out.1
        rw [show 3 * (i + 1) = o + 3 by omega]
theorem PsA.blk {w : World} {b tg cp : Nat} {all : List Tk} {p : Ps} (h : PsA w b tg cp all p) : ∃ sl, Blk w b 55 #[sl, .int .i64 p.nodes, .int .i64 p.depth, .bool p.over] ∧ (∃ pa n c, sl = .slice pa n c) ∧ ∀ w' q, q.ws = p.ws → Blk w' b 55 #[sl, .int .i64 q.nodes, .int .i64 q.depth, .bool q.over] → w.grownBy w' (some b) → PsA w' b tg cp all q := by
  obtain ⟨i, pa, h1, h2, h3, h4, h5, h6, h7, h8, h9⟩ := h
  refine ⟨_, h6, ⟨_, _, _, rfl⟩, fun w' q hq hb hg => ⟨i, pa, hq.trans h1, h2, h3, h4, h5, hb, h7, fun k t ht => ?_, h9.keptR hg (fun k e => by injection e with e; omega)⟩⟩
  obtain ⟨q1, q2, q3⟩ := h8 k t ht
  have hne : some tg ≠ some b := fun e => h7 (Option.some.inj e)
  exact ⟨hg.cell q1 hne, hg.cell q2 hne, hg.cell q3 hne⟩
set_option maxRecDepth 100000 in
theorem room_any {b tg cp : Nat} {all : List Tk} {p : Ps} (h m : Nat) (w : World) (hP : PsA w b tg cp all p) :
    Calls Tryz.prog 40 #[.pointer (some ⟨b, 0, none⟩), .int .i64 h, .int .i64 m] w (PrP uV b tg cp all w (roomP h m p)) := by
  obtain ⟨sl, hB, _, hK⟩ := hP.blk
  have f3 := hB.frozen 3
  have c3 := hB.cell 3
  simp at c3
  by_cases hm : m ≤ h
  · have e : roomP h m p = .ok ((), { p with over := true }) := by unfold roomP; rw [if_pos hm]
    rw [e]
    have hm' : (m : Int) ≤ h := by omega
    have K1 : Hid (PrP uV b tg cp all w (.ok ((), { p with over := true })) (.returned (.tuple #[])) (w.setCell ⟨b, 3, none⟩ (.bool true))) := ⟨_, rfl, rfl, hK _ _ rfl (by have := hB.set 3 (.bool true); simpa using this) (grown_set (grown_refl w (some b)) _ _), grown_set (grown_refl w (some b)) _ _⟩
    clear hK hB hP e
    go_enter Tryz.func40, Tryz.ntmps40
    go_wp2_with fail
    go_end0
    exact K1.out
  · have e : roomP h m p = .ok ((), p) := by unfold roomP; rw [if_neg hm]
    rw [e]
    have hm' : ¬ (m : Int) ≤ h := by omega
    have K1 : Hid (PrP uV b tg cp all w (.ok ((), p)) (.returned (.tuple #[])) w) := ⟨_, rfl, rfl, hP, grown_refl w (some b)⟩
    clear hK hB hP e
    go_enter Tryz.func40, Tryz.ntmps40
    go_wp2_with fail
    go_end0
    exact K1.out
end Pm
end Go.Proofs.YtajoncmmdeahnaaGreatDoor
namespace Go.Proofs.YtajoncmmdeahnaaGreatDoor
open Go.RowKit
namespace Pm
def overIf (c : Bool) (p : Ps) : Ps := if c then { p with over := true } else p
theorem over_nodes (c : Bool) (p : Ps) : (overIf c p).nodes = p.nodes := by unfold overIf; split <;> rfl
theorem over_depth (c : Bool) (p : Ps) : (overIf c p).depth = p.depth := by unfold overIf; split <;> rfl
theorem room_eq (h m : Nat) (p : Ps) : roomP h m p = .ok ((), overIf (decide (m ≤ h)) p) := by
  unfold roomP overIf
  by_cases hm : m ≤ h <;> simp [hm]
theorem bnd_ok {α β : Type} {x : Pr α} {f : α → Pr β} {p q : Ps} {a : α} (h : x p = .ok (a, q)) : (x >>= f) p = f a q := by
  show Pr.bnd x f p = _
  unfold Pr.bnd
  rw [h]
theorem bnd_err {α β : Type} {x : Pr α} {f : α → Pr β} {p : Ps} {e : Option (Nat × Nat)} (h : x p = .error e) : (x >>= f) p = .error e := by
  show Pr.bnd x f p = _
  unfold Pr.bnd
  rw [h]
theorem pure_ap {α : Type} (a : α) (p : Ps) : (pure a : Pr α) p = .ok (a, p) := rfl
theorem nxt_eq {p : Ps} {t : Tk} {r : List Tk} (hw : p.ws = t :: r) : nxt p = .ok (t, p) := by unfold nxt; rw [hw]
theorem nxt_nil {p : Ps} (hw : p.ws = []) : nxt p = .error none := by unfold nxt; rw [hw]
theorem sees_eq (s : List UInt8) {p : Ps} {t : Tk} {r : List Tk} (hw : p.ws = t :: r) : seesP s p = .ok (t.s == s, p) := by
  unfold seesP
  rw [bnd_ok (nxt_eq hw), pure_ap]
theorem sees_nil (s : List UInt8) {p : Ps} (hw : p.ws = []) : seesP s p = .error none := by
  unfold seesP
  rw [bnd_err (nxt_nil hw)]
theorem fail_eq {α : Type} (n : Nat) {p : Ps} {t : Tk} {r : List Tk} (hw : p.ws = t :: r) : (failP n : Pr α) p = .error (some (t.pl, n)) := by unfold failP; rw [hw]
theorem made_eq (n : Nd) (p : Ps) : madeP n p = if p.nodes ≤ 1000000 then .ok (n, { overIf (decide (2000 ≤ p.nodes)) p with nodes := p.nodes + 1 }) else .error none := by
  unfold madeP
  rw [bnd_ok (x := fun p => roomP p.nodes 2000 p) (room_eq p.nodes 2000 p)]
  by_cases h : p.nodes ≤ 1000000
  · rw [if_pos h, bnd_ok (q := { overIf (decide (2000 ≤ p.nodes)) p with nodes := p.nodes + 1 }) (a := ()) (by unfold more; rw [over_nodes, if_pos h]), pure_ap]
  · rw [if_neg h, bnd_err (e := none) (by unfold more; rw [over_nodes, if_neg h])]
theorem open_eq (s : List UInt8) (p : Ps) : openP s p = if p.depth ≤ 1000000 then wantP s { overIf (decide (40 ≤ p.depth)) p with depth := p.depth + 1 } else .error none := by
  unfold openP
  rw [bnd_ok (x := fun p => roomP p.depth 40 p) (room_eq p.depth 40 p)]
  by_cases h : p.depth ≤ 1000000
  · rw [if_pos h, bnd_ok (q := { overIf (decide (40 ≤ p.depth)) p with depth := p.depth + 1 }) (a := ()) (by unfold deeper; rw [over_depth, if_pos h])]
  · rw [if_neg h, bnd_err (e := none) (by unfold deeper; rw [over_depth, if_neg h])]
theorem want_eq (s : List UInt8) {p : Ps} {t : Tk} {r : List Tk} (hw : p.ws = t :: r) : wantP s p = if t.s == s then passP p else .error (some (t.pl, 110)) := by
  unfold wantP
  rw [bnd_ok (sees_eq s hw)]
  by_cases h : (t.s == s) = true
  · rw [if_pos h, if_pos h]
  · rw [if_neg h, if_neg h, fail_eq 110 hw]
theorem want_nil (s : List UInt8) {p : Ps} (hw : p.ws = []) : wantP s p = .error none := by
  unfold wantP
  rw [bnd_err (sees_nil s hw)]
theorem name_eq {p : Ps} {t : Tk} {r : List Tk} (hw : p.ws = t :: r) : nameP p = if t.kind == 1 then (match passP p with | .ok (_, q) => .ok (tkS t, q) | .error e => .error e) else .error (some (t.pl, 110)) := by
  unfold nameP
  rw [bnd_ok (nxt_eq hw)]
  by_cases h : (t.kind == 1) = true
  · rw [if_pos h, if_pos h]
    cases hp : passP p with
    | ok x => rw [bnd_ok hp]; rfl
    | error e => rw [bnd_err hp]
  · rw [if_neg h, if_neg h, fail_eq 110 hw]
theorem lt_nb {w : World} {b : Nat} (hb : b < w.heap.size) : ∀ i, w.heap.size ≤ i → some i ≠ some b := fun i hi e => by
  injection e with e
  omega
theorem PsA.lt {w : World} {b tg cp : Nat} {all : List Tk} {p : Ps} (h : PsA w b tg cp all p) : b < w.heap.size := by
  obtain ⟨sl, hB, _⟩ := h.blk
  exact hB.lt
theorem setRow_blk {w : World} {g : Nat} {t : TypeId} {old : Array Value} (hg : Blk w g t old) (cells : Array Value) : Blk (w.setRow g cells) g t cells := setRow_heap w g old cells t (0, 0) hg
theorem setRow_grown (w : World) (g : Nat) (cells : Array Value) : w.grownBy (w.setRow g cells) (some g) :=
  ⟨rfl, rfl, rfl, by simp, fun k _ hn => setRow_other w g k cells (fun e => hn (by rw [e]))⟩
theorem size27 : (Tryz.prog.info? 27).map (·.size) = some 5 := by kernel_rfl
theorem store_nd {ops : Array Oper} {rest : List Oper} {o : Oper} {a : Act} {w : World} {Q : Exit → Act → World → Prop} (x y : Operand) (hgd : o.guard = none) (ho : o.op = .store 27 x y) (g : Nat) {x0 x1 x2 x3 x4 : Value} {k t : Int} {s : ByteArray} {n : Int} {q : Option Addr} {l c : Nat} (hg : Blk w g 27 #[x0, x1, x2, x3, x4])
    (hx : a.eval x = .pointer (some ⟨g, 0, none⟩)) (hy : a.eval y = .agg #[.int .i64 k, .int .i64 t, .string s, .int .i64 n, .slice q l c])
    (h : ∀ w', Blk w' g 27 #[.int .i64 k, .int .i64 t, .string s, .int .i64 n, .slice q l c] → w.grownBy w' (some g) → wpList Tryz.prog ops Q rest (a.put o.dst undef) w') : wpList Tryz.prog ops Q (o :: rest) a w :=
  wpList_store_row hgd 27 x y ho g _ hx hy 27 _ hg size27 rfl (by simp [Value.oneCell']) (h _ (setRow_blk hg _) (setRow_grown w g _))
theorem results_nd {fn : Func} {p : Tmp} (h : fn.results = #[.cell p 27]) (tmps : Array Value) (w : World) (g : Nat) {x0 x1 x2 x3 x4 : Value} (hp : tmps.getD p undef = .pointer (some ⟨g, 0, none⟩)) (hg : Blk w g 27 #[x0, x1, x2, x3, x4]) : (results fn tmps).run Tryz.prog w = .ok (.agg #[x0, x1, x2, x3, x4]) w :=
  results_cell_row h _ _ g 27 _ (0, 0) _ hp hg Tryz.underlying27 rfl size27
theorem grown_to {w w1 w' : World} {b g : Nat} (h : w.grownBy w1 (some b)) (g1 : w1.grownBy w' (some g)) (hg : w.heap.size ≤ g) : w.grownBy w' (some b) :=
  ⟨g1.os.trans h.os, g1.tape.trans h.tape, g1.output.trans h.output, Nat.le_trans h.size g1.size, fun i hi hn => (g1.block i (Nat.lt_of_lt_of_le hi h.size) (fun e => by injection e with e; omega)).trans (h.block i hi hn)⟩
theorem PsA.keptG {w w' : World} {b tg cp g : Nat} {all : List Tk} {p : Ps} (h : PsA w b tg cp all p) (hg : w.grownBy w' (some g)) (h1 : b < g) (h2 : g ≠ tg) : PsA w' b tg cp all p := by
  obtain ⟨i, pa, q1, q2, q3, q4, q5, q6, q7, q8, q9⟩ := h
  refine ⟨i, pa, q1, q2, q3, q4, q5, q6.kept hg (fun e => by injection e with e; omega), q7, fun k t ht => ?_, q9.keptR hg (fun k e => by injection e with e; omega)⟩
  obtain ⟨c1, c2, c3⟩ := q8 k t ht
  have hne : some tg ≠ some g := fun e => h2 (Option.some.inj e).symm
  exact ⟨hg.cell c1 hne, hg.cell c2 hne, hg.cell c3 hne⟩
set_option maxRecDepth 100000 in
set_option maxHeartbeats 1000000 in
theorem made_any {b tg cp : Nat} {all : List Tk} {p : Ps} (x : Nd) (k t : Int) (s : ByteArray) (n : Int) (q : Option Addr) (l c : Nat) (w : World) (hP : PsA w b tg cp all p) (hx : madeP x p ≠ .error none) :
    Calls Tryz.prog 42 #[.pointer (some ⟨b, 0, none⟩), .agg #[.int .i64 k, .int .i64 t, .string s, .int .i64 n, .slice q l c]] w (PrP (fun _ _ v => v = .agg #[.int .i64 k, .int .i64 t, .string s, .int .i64 n, .slice q l c]) b tg cp all w (madeP x p)) := by
  rw [made_eq] at hx ⊢
  by_cases hn : p.nodes ≤ 1000000
  · rw [if_pos hn]
    have hl := hP.lt
    have TG : Hid (w.heap.size + 1 ≠ tg) := hid (by have := hP.tgl; omega)
    have C40 : Hid (∀ W, w.grownBy W none → Calls Tryz.prog 40 #[.pointer (some ⟨b, 0, none⟩), .int .i64 p.nodes, .int .i64 (2000 : Nat)] W (PrP uV b tg cp all W (.ok ((), overIf (decide (2000 ≤ p.nodes)) p)))) := fun W hW => by
      rw [← room_eq]
      exact room_any p.nodes 2000 W (hP.kept hW)
    obtain ⟨sl, hB, ⟨pa, n1, c1, rfl⟩, _⟩ := hP.blk
    have b1 := ((hB.alloc (.cells #[.int .i64 k, .int .i64 t, .string s, .int .i64 n, .slice q l c] 27)).alloc (.cells #[.int .i64 0, .int .i64 0, .string ⟨#[]⟩, .int .i64 0, .slice none 0 0] 27)).cell 1
    simp at b1
    have G2 := hid (grown_alloc (grown_alloc (grown_refl w none) (.cells #[.int .i64 k, .int .i64 t, .string s, .int .i64 n, .slice q l c] 27)) (.cells #[.int .i64 0, .int .i64 0, .string ⟨#[]⟩, .int .i64 0, .slice none 0 0] 27))
    have X0 := hid ((Blk.new w 27 #[.int .i64 k, .int .i64 t, .string s, .int .i64 n, .slice q l c]).alloc (.cells #[.int .i64 0, .int .i64 0, .string ⟨#[]⟩, .int .i64 0, .slice none 0 0] 27))
    have X1 := hid (Blk.new (w.alloc (.cells #[.int .i64 k, .int .i64 t, .string s, .int .i64 n, .slice q l c] 27)) 27 #[.int .i64 0, .int .i64 0, .string ⟨#[]⟩, .int .i64 0, .slice none 0 0])
    rw [World.size_alloc] at X1
    have wi : IntKind.i64.wrap ((p.nodes : Int) + 1) = ((p.nodes + 1 : Nat) : Int) := by rw [IntKind.wrap_i64]; omega
    have hon := over_nodes (decide (2000 ≤ p.nodes)) p
    generalize overIf (decide (2000 ≤ p.nodes)) p = p1 at *
    clear hB hx
    generalize p.nodes = nd at *
    clear hn hP
    go_enter Tryz.func42, Tryz.ntmps42
    go_wp2_with (first
      | (go_at_call 40; refine (C40.out _ G2.out).mono ?_; rintro e w3 ⟨v, rfl, rfl, p3, g3⟩; have P3 := hid p3; have G3 := hid g3; have Y0 := hid (X0.out.kept g3 (lt_nb hl _ (Nat.le_refl _))); have Y1 := hid (X1.out.kept g3 (lt_nb hl _ (Nat.le_succ _))); obtain ⟨sl, hB, ⟨pb, n2, c2, rfl⟩, hK⟩ := p3.blk; have HB3 := hid hB; have HK3 := hid hK; have d1 := hB.cell 1; simp at d1; rw [hon] at d1; have fz := hB.frozen 1; have y0 := Y0.out.cell 0; have y1 := Y0.out.cell 1; have y2 := Y0.out.cell 2; have y3 := Y0.out.cell 3; have y4 := Y0.out.cell 4; simp at y0 y1 y2 y3 y4; have P4 : Hid (PsA (w3.setCell ⟨b, 1, none⟩ (.int .i64 ((nd : Int) + 1))) b tg cp all { p1 with nodes := nd + 1 }) := hid (hK _ { p1 with nodes := nd + 1 } rfl (by have := hB.set 1 (.int .i64 ((nd : Int) + 1)); simpa using this) (grown_set (grown_refl w3 (some b)) _ _)); have G4 : Hid (w.grownBy (w3.setCell ⟨b, 1, none⟩ (.int .i64 ((nd : Int) + 1))) (some b)) := hid (grown_set (grown_bb (grown_b G2.out) G3.out) _ _); have Z0 : Hid (Blk (w3.setCell ⟨b, 1, none⟩ (.int .i64 ((nd : Int) + 1))) (w.heap.size + 1) 27 #[.int .i64 0, .int .i64 0, .string ⟨#[]⟩, .int .i64 0, .slice none 0 0]) := hid (Y1.out.other _ (show w.heap.size + 1 ≠ b by omega)); clear g3 p3 hB hK C40)
      | (refine store_nd (.tmp 4) (.tmp 18) rfl rfl (w.heap.size + 1) Z0.out rfl rfl ?_; intro w5 b5 g5; have Z1 := hid b5; have G5 := hid (grown_to G4.out g5 (Nat.le_succ _)); have P5 := hid (P4.out.keptG g5 (by omega) TG.out); clear b5 g5 Z0 P4 G4))
    refine bodyPost_ret (results_nd rfl _ _ (w.heap.size + 1) rfl Z1.out) rfl ?_
    exact ⟨_, rfl, rfl, P5.out, G5.out⟩
  · rw [if_neg hn] at hx
    exact absurd rfl hx
set_option maxRecDepth 100000 in
theorem want_any {b tg cp : Nat} {all : List Tk} {p : Ps} (s : List UInt8) (w : World) (hP : PsA w b tg cp all p) (hx : wantP s p ≠ .error none) :
    Calls Tryz.prog 120 #[.pointer (some ⟨b, 0, none⟩), .string ⟨s.toArray⟩] w (PrP uV b tg cp all w (wantP s p)) := by
  match hw : p.ws with
  | [] => exact absurd (want_nil s hw) hx
  | t :: r =>
    have C39 := hid (sees_any s w hP hw)
    rw [want_eq s hw] at hx ⊢
    cases hq : (t.s == s) with
    | false =>
      rw [hq] at C39
      have C82 : Hid (∀ W, w.grownBy W none → _) := fun W hW => fail_any 110 W (hP.kept hW) hw
      rw [if_neg (by decide)]
      clear hx hw hP hq
      go_enter Tryz.func120, Tryz.ntmps120
      go_wp2_with (first
        | (go_at_call 39; refine C39.out.mono ?_; rintro e w1 ⟨rfl, g1⟩; have G1 := hid g1; clear g1 C39)
        | (go_at_call 82; refine (C82.out _ G1.out).mono ?_; rintro e w2 ⟨rfl, g2⟩; have G2 := hid (grown_none G1.out g2); clear g2 C82))
      exact ⟨rfl, rfl, grown_b G2.out⟩
    | true =>
      rw [hq] at C39 hx
      rw [if_pos rfl] at hx ⊢
      have C43 : Hid (∀ W, w.grownBy W none → _) := fun W hW => pass_any W (hP.kept hW) hx
      clear hw hP hq
      rcases hz : passP p with e0 | ⟨u, q⟩
      · rcases e0 with _ | ⟨at_, n⟩
        · exact absurd hz hx
        · rw [hz] at C43
          clear hx hz
          go_enter Tryz.func120, Tryz.ntmps120
          go_wp2_with (first
            | (go_at_call 39; refine C39.out.mono ?_; rintro e w1 ⟨rfl, g1⟩; have G1 := hid g1; clear g1 C39)
            | (go_at_call 43; refine (C43.out _ G1.out).mono ?_; rintro e w2 ⟨rfl, g2⟩; have G2 := hid (grown_bb (grown_b G1.out) g2); clear g2 C43))
          exact ⟨rfl, rfl, G2.out⟩
      · rw [hz] at C43
        clear hx hz
        go_enter Tryz.func120, Tryz.ntmps120
        go_wp2_with (first
          | (go_at_call 39; refine C39.out.mono ?_; rintro e w1 ⟨rfl, g1⟩; have G1 := hid g1; clear g1 C39)
          | (go_at_call 43; refine (C43.out _ G1.out).mono ?_; rintro e w2 ⟨v, rfl, rfl, p2, g2⟩; have P2 := hid p2; have G2 := hid (grown_bb (grown_b G1.out) g2); clear p2 g2 C43))
        go_end0
        exact ⟨_, rfl, rfl, P2.out, G2.out⟩
end Pm
end Go.Proofs.YtajoncmmdeahnaaGreatDoor
namespace Go.Proofs.YtajoncmmdeahnaaGreatDoor
open Go.RowKit
namespace Pm
structure Loc (n : Nat) (w W : World) : Prop where
  os : W.os = w.os
  tape : W.tape = w.tape
  output : W.output = w.output
  size : w.heap.size ≤ W.heap.size
  block : ∀ k, k < n → k < w.heap.size → W.heap[k]? = w.heap[k]?
theorem Loc.refl (n : Nat) (w : World) : Loc n w w := ⟨rfl, rfl, rfl, Nat.le_refl _, fun _ _ _ => rfl⟩
theorem Loc.alloc {n : Nat} {w W : World} (h : Loc n w W) (o : Obj) : Loc n w (W.alloc o) := by
  have g := grown_alloc (grown_refl W none) o
  exact ⟨g.os.trans h.os, g.tape.trans h.tape, g.output.trans h.output, Nat.le_trans h.size g.size, fun k h1 h2 => (g.block k (Nat.lt_of_lt_of_le h2 h.size) (by simp)).trans (h.block k h1 h2)⟩
theorem Loc.by {n : Nat} {w W W' : World} {r : Option Nat} (h : Loc n w W) (g : W.grownBy W' r) (hr : ∀ k, r = some k → n ≤ k) : Loc n w W' :=
  ⟨g.os.trans h.os, g.tape.trans h.tape, g.output.trans h.output, Nat.le_trans h.size g.size, fun k h1 h2 => (g.block k (Nat.lt_of_lt_of_le h2 h.size) (fun e => by have := hr k e.symm; omega)).trans (h.block k h1 h2)⟩
theorem Loc.quiet {n : Nat} {w W W' : World} (h : Loc n w W) (g : W.grownBy W' none) : Loc n w W' := h.by g (by simp)
theorem PsA.loc {n : Nat} {w W : World} {b tg cp : Nat} {all : List Tk} {p : Ps} (h : PsA w b tg cp all p) (hl : Loc n w W) (hb : b < n) (ht : tg < n) : PsA W b tg cp all p := by
  have hbl := h.lt
  have htl := h.tgl
  obtain ⟨i, pa, q1, q2, q3, q4, q5, q6, q7, q8, q9⟩ := h
  exact ⟨i, pa, q1, q2, q3, q4, q5, (hl.block b hb hbl).trans q6, q7, q8.kept (hl.block tg ht htl), q9.below (fun i hi hs => hl.block i (Nat.lt_trans hi hb) hs)⟩
theorem Loc.grown {w w1 W : World} {b : Nat} (h : w.grownBy w1 (some b)) (hl : Loc w.heap.size w1 W) : w.grownBy W (some b) :=
  ⟨hl.os.trans h.os, hl.tape.trans h.tape, hl.output.trans h.output, Nat.le_trans h.size hl.size, fun i hi hn => (hl.block i hi (Nat.lt_of_lt_of_le hi h.size)).trans (h.block i hi hn)⟩
set_option maxRecDepth 100000 in
theorem name_any {b tg cp : Nat} {all : List Tk} {p : Ps} (w : World) (hP : PsA w b tg cp all p) (hx : nameP p ≠ .error none) :
    Calls Tryz.prog 121 #[.pointer (some ⟨b, 0, none⟩)] w (PrP sV b tg cp all w (nameP p)) := by
  match hw : p.ws with
  | [] => exact absurd (by unfold nameP; rw [bnd_err (nxt_nil hw)]) hx
  | t :: r =>
    have C38 := hid (next_any w hP hw)
    rw [name_eq hw] at hx ⊢
    have hl := hP.lt
    have B1 : Hid (∀ (w1 : World) (x : Value), Blk (w1.alloc (.cells #[x, .string (tkS t), .int .i64 t.pl] 88)) w1.heap.size 88 #[x, .string (tkS t), .int .i64 t.pl]) := fun w1 x => Blk.new w1 88 _
    cases hq : (t.kind == 1) with
    | false =>
      have hk : ¬ ((t.kind : Int) = 1) := by
        intro h
        have : t.kind = 1 := by omega
        rw [this] at hq
        cases hq
      have C82 : Hid (∀ W, w.grownBy W none → _) := fun W hW => fail_any 110 W (hP.kept hW) hw
      rw [if_neg (by decide)]
      clear hx hw hP hq B1
      go_enter Tryz.func121, Tryz.ntmps121
      go_wp2_with (first
        | (go_at_call 38; refine C38.out.mono ?_; rintro e w1 ⟨rfl, g1⟩; have G1 := hid g1; clear g1 C38)
        | (go_at_call 82; refine (C82.out _ (grown_alloc G1.out _)).mono ?_; rintro e w2 ⟨rfl, g2⟩; have G2 := hid (grown_none (grown_alloc G1.out _) g2); clear g2 C82))
      exact ⟨rfl, rfl, grown_b G2.out⟩
    | true =>
      have hk : (t.kind : Int) = 1 := by
        have : t.kind = 1 := by simpa using hq
        omega
      rw [hq, if_pos rfl] at hx
      rw [if_pos rfl]
      have hx2 : passP p ≠ .error none := fun h => by rw [h] at hx; exact hx rfl
      have C43 : Hid (∀ W, w.grownBy W none → _) := fun W hW => pass_any W (hP.kept hW) hx2
      clear hw hP hq
      rcases hz : passP p with e0 | ⟨u, q⟩
      · rcases e0 with _ | ⟨at_, n⟩
        · exact absurd hz hx2
        · rw [hz] at C43
          clear hx hx2 hz B1
          go_enter Tryz.func121, Tryz.ntmps121
          go_wp2_with (first
            | (go_at_call 38; refine C38.out.mono ?_; rintro e w1 ⟨rfl, g1⟩; have G1 := hid g1; clear g1 C38)
            | (go_at_call 43; refine (C43.out _ (grown_alloc G1.out _)).mono ?_; rintro e w2 ⟨rfl, g2⟩; have G2 := hid (grown_bb (grown_b (grown_alloc G1.out _)) g2); clear g2 C43))
          exact ⟨rfl, rfl, G2.out⟩
      · rw [hz] at C43
        clear hx hx2 hz
        go_enter Tryz.func121, Tryz.ntmps121
        go_wp2_with (first
          | (go_at_call 38; refine C38.out.mono ?_; rintro e w1 ⟨rfl, g1⟩; have G1 := hid g1; clear g1 C38)
          | (go_at_call 43; (refine (C43.out _ (grown_alloc G1.out _)).mono ?_; rintro e w2 ⟨v, rfl, rfl, p2, g2⟩; have P2 := hid p2; have b2 := (B1.out w1 _).kept g2 (lt_nb hl _ G1.out.size); have y1 := b2.cell 1; simp at y1; have G2 := hid (grown_bb (grown_b (grown_alloc G1.out _)) g2); clear p2 g2 C43 b2)))
        go_ret
        exact ⟨_, rfl, rfl, P2.out, G2.out⟩
set_option maxRecDepth 100000 in
theorem shut_any {b tg cp : Nat} {all : List Tk} {p : Ps} (s : List UInt8) (w : World) (hP : PsA w b tg cp all p) (hx : shutP s p ≠ .error none) :
    Calls Tryz.prog 167 #[.pointer (some ⟨b, 0, none⟩), .string ⟨s.toArray⟩] w (PrP uV b tg cp all w (shutP s p)) := by
  have hx2 : wantP s p ≠ .error none := fun h => hx (by unfold shutP; rw [bnd_err h])
  have C120 := hid (want_any s w hP hx2)
  clear hP
  rcases hz : wantP s p with e0 | ⟨u, q⟩
  · have e1 : shutP s p = .error e0 := by unfold shutP; rw [bnd_err hz]
    rcases e0 with _ | ⟨at_, n⟩
    · exact absurd hz hx2
    · rw [hz] at C120
      rw [e1]
      clear hx hx2 hz e1
      go_enter Tryz.func167, Tryz.ntmps167
      go_wp2_with (first
        | (go_at_call 120; refine C120.out.mono ?_; rintro e w2 ⟨rfl, g2⟩; have G2 := hid g2; clear g2 C120))
      exact ⟨rfl, rfl, G2.out⟩
  · have e1 : shutP s p = higher q := by unfold shutP; rw [bnd_ok hz]
    rw [hz] at C120
    rw [e1] at hx ⊢
    unfold higher at hx ⊢
    by_cases hd : 1 ≤ q.depth ∧ q.depth ≤ 1000001
    · rw [if_pos hd]
      clear hx hx2 hz e1
      have wi : IntKind.i64.wrap ((q.depth : Int) - 1) = (q.depth : Int) - 1 := by rw [IntKind.wrap_i64]; omega
      have ez : Hid (((q.depth - 1 : Nat) : Int) = (q.depth : Int) - 1 ∧ True) := ⟨by omega, trivial⟩
      clear hd
      go_enter Tryz.func167, Tryz.ntmps167
      go_wp2_with (first
        | (go_at_call 120; refine C120.out.mono ?_; rintro e w2 ⟨v, rfl, rfl, p2, g2⟩; have G2 := hid g2; obtain ⟨sl, hB, ⟨pb, n2, c2, rfl⟩, hK⟩ := p2.blk; have d2 := hB.cell 2; simp at d2; have fz := hB.frozen 2; have P4 : Hid (PsA (w2.setCell ⟨b, 2, none⟩ (.int .i64 ((q.depth : Int) - 1))) b tg cp all { q with depth := q.depth - 1 }) := hid (hK _ { q with depth := q.depth - 1 } rfl (by have h := hB.set 2 (.int .i64 ((q.depth : Int) - 1)); show Blk _ b 55 #[_, _, .int .i64 ((q.depth - 1 : Nat) : Int), _]; rw [ez.out.1]; simpa using h) (grown_set (grown_refl w2 (some b)) _ _)); clear p2 g2 C120 hB hK))
      go_end0
      exact ⟨_, rfl, rfl, P4.out, grown_set G2.out _ _⟩
    · rw [if_neg hd] at hx
      exact absurd rfl hx
set_option maxRecDepth 100000 in
theorem open_any {b tg cp : Nat} {all : List Tk} {p : Ps} (s : List UInt8) (w : World) (hP : PsA w b tg cp all p) (hx : openP s p ≠ .error none) :
    Calls Tryz.prog 165 #[.pointer (some ⟨b, 0, none⟩), .string ⟨s.toArray⟩] w (PrP uV b tg cp all w (openP s p)) := by
  rw [open_eq] at hx ⊢
  by_cases hd : p.depth ≤ 1000000
  · rw [if_pos hd] at hx ⊢
    have C40 : Hid (Calls Tryz.prog 40 #[.pointer (some ⟨b, 0, none⟩), .int .i64 p.depth, .int .i64 (40 : Nat)] w (PrP uV b tg cp all w (.ok ((), overIf (decide (40 ≤ p.depth)) p)))) := by
      rw [← room_eq]
      exact hid (room_any p.depth 40 w hP)
    obtain ⟨sl0, hB0, ⟨pb0, n0, c0, rfl⟩, _⟩ := hP.blk
    have c2' := hB0.cell 2
    simp at c2'
    have hod := over_depth (decide (40 ≤ p.depth)) p
    generalize overIf (decide (40 ≤ p.depth)) p = p1 at *
    have wi : IntKind.i64.wrap ((p.depth : Int) + 1) = (p.depth : Int) + 1 := by rw [IntKind.wrap_i64]; omega
    generalize p.depth = dp at *
    have C120 : Hid (∀ W, PsA W b tg cp all { p1 with depth := dp + 1 } → _) := fun W hW => want_any s W hW hx
    clear hB0 hP hd
    rcases hz : wantP s { p1 with depth := dp + 1 } with e0 | ⟨u, q⟩
    · rcases e0 with _ | ⟨at_, n⟩
      · exact absurd hz hx
      · rw [hz] at C120
        clear hx hz
        go_enter Tryz.func165, Tryz.ntmps165
        go_wp2_with (first
          | (go_at_call 40; refine C40.out.mono ?_; rintro e w2 ⟨v, rfl, rfl, p2, g2⟩; have G2 := hid g2; obtain ⟨sl, hB, ⟨pb, n2, c2, rfl⟩, hK⟩ := p2.blk; have d2 := hB.cell 2; simp at d2; rw [hod] at d2; have fz := hB.frozen 2; have P4 : Hid (PsA (w2.setCell ⟨b, 2, none⟩ (.int .i64 ((dp : Int) + 1))) b tg cp all { p1 with depth := dp + 1 }) := hid (hK _ { p1 with depth := dp + 1 } rfl (by have h := hB.set 2 (.int .i64 ((dp : Int) + 1)); simpa using h) (grown_set (grown_refl w2 (some b)) _ _)); have G4 := hid (grown_set G2.out 2 (.int .i64 ((dp : Int) + 1))); clear p2 g2 C40 hB hK)
          | (go_at_call 120; refine (C120.out _ P4.out).mono ?_; rintro e w5 ⟨rfl, g5⟩; have G5 := hid (grown_bb G4.out g5); clear g5 C120))
        exact ⟨rfl, rfl, G5.out⟩
    · rw [hz] at C120
      clear hx hz
      go_enter Tryz.func165, Tryz.ntmps165
      go_wp2_with (first
        | (go_at_call 40; refine C40.out.mono ?_; rintro e w2 ⟨v, rfl, rfl, p2, g2⟩; have G2 := hid g2; obtain ⟨sl, hB, ⟨pb, n2, c2, rfl⟩, hK⟩ := p2.blk; have d2 := hB.cell 2; simp at d2; rw [hod] at d2; have fz := hB.frozen 2; have P4 : Hid (PsA (w2.setCell ⟨b, 2, none⟩ (.int .i64 ((dp : Int) + 1))) b tg cp all { p1 with depth := dp + 1 }) := hid (hK _ { p1 with depth := dp + 1 } rfl (by have h := hB.set 2 (.int .i64 ((dp : Int) + 1)); simpa using h) (grown_set (grown_refl w2 (some b)) _ _)); have G4 := hid (grown_set G2.out 2 (.int .i64 ((dp : Int) + 1))); clear p2 g2 C40 hB hK)
        | (go_at_call 120; refine (C120.out _ P4.out).mono ?_; rintro e w5 ⟨v, rfl, rfl, p5, g5⟩; have P5 := hid p5; have G5 := hid (grown_bb G4.out g5); clear p5 g5 C120))
      go_end0
      exact ⟨_, rfl, rfl, P5.out, G5.out⟩
  · rw [if_neg hd] at hx
    exact absurd rfl hx
end Pm
end Go.Proofs.YtajoncmmdeahnaaGreatDoor
namespace Go.Proofs.YtajoncmmdeahnaaGreatDoor
open Go.RowKit
namespace Pm
def tyOf (s : List UInt8) : Nat := if s == wInt then 1 else if s == wFloat then 2 else if s == wBool then 3 else 0
theorem typed_eq {p : Ps} {t : Tk} {r : List Tk} (hw : p.ws = t :: r) : typedP p = if tyOf t.s = 0 then .error (some (t.pl, 110)) else (match passP p with | .ok (_, q) => .ok ((tyOf t.s : Int), q) | .error e => .error e) := by
  unfold typedP tyOf
  rw [bnd_ok (nxt_eq hw)]
  by_cases h1 : (t.s == wInt) = true
  · rw [if_pos h1, if_pos h1, if_neg (by decide)]
    cases hp : passP p with
    | ok x => rw [bnd_ok hp]; rfl
    | error e => rw [bnd_err hp]
  · rw [if_neg h1, if_neg h1]
    by_cases h2 : (t.s == wFloat) = true
    · rw [if_pos h2, if_pos h2, if_neg (by decide)]
      cases hp : passP p with
      | ok x => rw [bnd_ok hp]; rfl
      | error e => rw [bnd_err hp]
    · rw [if_neg h2, if_neg h2]
      by_cases h3 : (t.s == wBool) = true
      · rw [if_pos h3, if_pos h3, if_neg (by decide)]
        cases hp : passP p with
        | ok x => rw [bnd_ok hp]; rfl
        | error e => rw [bnd_err hp]
      · rw [if_neg h3, if_neg h3, if_pos rfl, fail_eq 110 hw]
set_option maxRecDepth 100000 in
theorem typed_any {b tg cp : Nat} {all : List Tk} {p : Ps} (w : World) (hP : PsA w b tg cp all p) (hx : typedP p ≠ .error none) :
    Calls Tryz.prog 122 #[.pointer (some ⟨b, 0, none⟩)] w (PrP iV b tg cp all w (typedP p)) := by
  match hw : p.ws with
  | [] => exact absurd (by unfold typedP; rw [bnd_err (nxt_nil hw)]) hx
  | t :: r =>
    have C38 := hid (next_any w hP hw)
    unfold tkS at C38
    rw [typed_eq hw] at hx ⊢
    have f1 := fld1
    have C82 : Hid (∀ W, w.grownBy W none → _) := fun W hW => fail_any 110 W (hP.kept hW) hw
    have key : (t.s == wInt) = true ∧ tyOf t.s = 1 ∨ (t.s == wInt) = false ∧ (t.s == wFloat) = true ∧ tyOf t.s = 2 ∨ (t.s == wInt) = false ∧ (t.s == wFloat) = false ∧ (t.s == wBool) = true ∧ tyOf t.s = 3 ∨ (t.s == wInt) = false ∧ (t.s == wFloat) = false ∧ (t.s == wBool) = false ∧ tyOf t.s = 0 := by
      unfold tyOf
      cases (t.s == wInt) <;> cases (t.s == wFloat) <;> cases (t.s == wBool) <;> simp
    by_cases h0 : tyOf t.s = 0
    · rw [if_pos h0]
      rcases key with ⟨_, k⟩ | ⟨_, _, k⟩ | ⟨_, _, _, k⟩ | ⟨k1, k2, k3, _⟩
      · omega
      · omega
      · omega
      · unfold wInt at k1
        unfold wFloat at k2
        unfold wBool at k3
        clear hx hw hP h0
        go_enter Tryz.func122, Tryz.ntmps122
        go_wp2_with (first
          | (go_at_call 38; refine C38.out.mono ?_; rintro e w1 ⟨rfl, g1⟩; have G1 := hid g1; clear g1 C38)
          | (go_at_call 82; refine (C82.out _ G1.out).mono ?_; rintro e w2 ⟨rfl, g2⟩; have G2 := hid (grown_none G1.out g2); clear g2 C82))
        exact ⟨rfl, rfl, grown_b G2.out⟩
    · rw [if_neg h0] at hx
      rw [if_neg h0]
      have hx2 : passP p ≠ .error none := fun h => by rw [h] at hx; exact hx rfl
      have C43 : Hid (∀ W, w.grownBy W none → _) := fun W hW => pass_any W (hP.kept hW) hx2
      clear hw hP C82 hx
      rcases hz : passP p with e0 | ⟨u, q⟩
      · rcases e0 with _ | ⟨at_, n⟩
        · exact absurd hz hx2
        · rw [hz] at C43
          clear hx2 hz
          rcases key with ⟨k1, k⟩ | ⟨k1, k2, k⟩ | ⟨k1, k2, k3, k⟩ | ⟨k1, k2, k3, k⟩
          all_goals
            first
              | (exact absurd k h0)
              | (clear h0 k
                 unfold wInt at k1
                 try unfold wFloat at k2
                 try unfold wBool at k3
                 go_enter Tryz.func122, Tryz.ntmps122
                 go_wp2_with (first
                   | (go_at_call 38; refine C38.out.mono ?_; rintro e w1 ⟨rfl, g1⟩; have G1 := hid g1; clear g1 C38)
                   | (go_at_call 43; refine (C43.out _ G1.out).mono ?_; rintro e w2 ⟨rfl, g2⟩; have G2 := hid (grown_bb (grown_b G1.out) g2); clear g2 C43))
                 exact ⟨rfl, rfl, G2.out⟩)
      · rw [hz] at C43
        clear hx2 hz
        rcases key with ⟨k1, k⟩ | ⟨k1, k2, k⟩ | ⟨k1, k2, k3, k⟩ | ⟨k1, k2, k3, k⟩
        all_goals
          first
            | (exact absurd k h0)
            | (rw [k]
               clear h0 k
               unfold wInt at k1
               try unfold wFloat at k2
               try unfold wBool at k3
               go_enter Tryz.func122, Tryz.ntmps122
               go_wp2_with (first
                 | (go_at_call 38; refine C38.out.mono ?_; rintro e w1 ⟨rfl, g1⟩; have G1 := hid g1; clear g1 C38)
                 | (go_at_call 43; refine (C43.out _ G1.out).mono ?_; rintro e w2 ⟨v, rfl, rfl, p2, g2⟩; have P2 := hid p2; have G2 := hid (grown_bb (grown_b G1.out) g2); clear p2 g2 C43))
               go_ret
               exact ⟨_, rfl, rfl, P2.out, G2.out⟩)
end Pm
end Go.Proofs.YtajoncmmdeahnaaGreatDoor
namespace Go.Proofs.YtajoncmmdeahnaaGreatDoor
open Go.RowKit
namespace Pm
theorem bnd_ne {α β : Type} {x : Pr α} {f : α → Pr β} {p : Ps} (h : (x >>= f) p ≠ .error none) : x p ≠ .error none := fun e => h (bnd_err e)
theorem PrP.cases {α : Type} {V : World → α → Value → Prop} {b tg cp : Nat} {all : List Tk} {w w' : World} {x : Rs α} {e : Ending} (h : PrP V b tg cp all w x e w') (hx : x ≠ .error none) :
    (∃ at_ n, x = .error (some (at_, n)) ∧ e = .panicked (FlV at_ n) ∧ w.grownBy w' (some b)) ∨ (∃ a p v, x = .ok (a, p) ∧ e = .returned v ∧ V w' a v ∧ PsA w' b tg cp all p ∧ w.grownBy w' (some b)) := by
  match x, h with
  | .ok (a, p), ⟨v, h1, h2, h3, h4⟩ => exact Or.inr ⟨a, p, v, rfl, h1, h2, h3, h4⟩
  | .error (some (at_, n)), ⟨h1, h2⟩ => exact Or.inl ⟨at_, n, rfl, h1, h2⟩
  | .error none, _ => exact absurd rfl hx
theorem made_ok {n x : Nd} {p q : Ps} (h : madeP n p = .ok (x, q)) : x = n := by
  rw [made_eq] at h
  split at h
  · injection h with h
    injection h with h1 h2
    exact h1.symm
  · cases h
end Pm
end Go.Proofs.YtajoncmmdeahnaaGreatDoor
