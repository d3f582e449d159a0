/-
  The document's List: all nodes of a tree, by their places.
-/
import Derived.Test.YtdodammplhlihaaDoorAb
namespace Go.Proofs.YtdodammplhlihaaDoor
open Go.RowKit
theorem RowN.cellsN {w : World} {P : Nat → Prop} {g : Nat} : ∀ {o : Nat} {ks : List Nd}, RowN w P g o ks → ∃ cs, CellsN w P cs ks ∧ ∀ j u, cs[j]? = some u → w.cell? ⟨g, o + j, none⟩ = some u
  | _, [], _ => ⟨[], rfl, fun j u h => by simp at h⟩
  | o, x :: r, h => by
    rw [RowN] at h
    obtain ⟨q, c0, c1, c2, c3, c4, hq⟩ := h.1.cells
    obtain ⟨cs, h1, h2⟩ := RowN.cellsN h.2
    refine ⟨_, ⟨q, cs, rfl, hq, h1⟩, fun j u hj => ?_⟩
    match j, hj with
    | 0, hj => obtain rfl := Option.some.inj hj; exact c0
    | 1, hj => obtain rfl := Option.some.inj hj; exact c1
    | 2, hj => obtain rfl := Option.some.inj hj; exact c2
    | 3, hj => obtain rfl := Option.some.inj hj; exact c3
    | 4, hj => obtain rfl := Option.some.inj hj; exact c4
    | j + 5, hj =>
      have := h2 j u (by simpa using hj)
      rw [show o + 5 + j = o + (j + 5) by omega] at this
      exact this
theorem CellsN.append {w : World} {P : Nat → Prop} {ls : List Nd} {ds : List Value} (hx : CellsN w P ds ls) : ∀ {cs : List Value} {ks : List Nd}, CellsN w P cs ks → CellsN w P (cs ++ ds) (ks ++ ls)
  | _, [], h => by
    obtain rfl : _ = [] := h
    exact hx
  | _, _ :: _, ⟨q', cs', h1, h2, h3⟩ => by
    subst h1
    exact ⟨q', _, rfl, h2, CellsN.append hx h3⟩
theorem CellsN.one {w : World} {P : Nat → Prop} : ∀ {cs : List Value} {ks : List Nd}, CellsN w P cs ks → ∀ u ∈ cs, u.oneCell' = true
  | _, [], h, u, hu => by
    obtain rfl : _ = [] := h
    cases hu
  | _, _ :: _, ⟨q', cs', h1, h2, h3⟩, u, hu => by
    subst h1
    obtain ⟨p, cap, eq, _⟩ := h2.form
    simp only [List.mem_cons] at hu
    rcases hu with rfl | rfl | rfl | rfl | rfl | hu
    · rfl
    · rfl
    · rfl
    · rfl
    · rw [eq]; rfl
    · exact CellsN.one h3 u hu
/-- A row of one's own whose nodes have their kids in blocks below M. -/
def Kl (w : World) (base M : Nat) (e : TypeId) (v : Value) (ks : List Nd) : Prop := ∃ cs, w.ownsRow base e 5 v ks.length cs ∧ CellsN w (fun b => b < M) cs ks ∧ ks ≠ []
theorem Kl.kept {w w' : World} {base M : Nat} {e : TypeId} {v : Value} {ks : List Nd} (h : Kl w base M e v ks) (hg : w.grownBy w' none) : Kl w' base M e v ks := by
  obtain ⟨cs, h1, h2, h3⟩ := h
  refine ⟨cs, h1.kept hg ?_, h2.keptP (Kp.of_none _ hg) (fun _ h _ => h), h3⟩
  cases hv : v.ownBlock with
  | none => exact Or.inl rfl
  | some g => exact Or.inr (by simp)
theorem Kl.mono {w : World} {base base' M : Nat} {e : TypeId} {v : Value} {ks : List Nd} (h : Kl w base M e v ks) (hb : base' ≤ base) : Kl w base' M e v ks := by
  obtain ⟨cs, h1, h2, h3⟩ := h
  refine ⟨cs, ⟨h1.1, ?_⟩, h2, h3⟩
  rcases h1.2 with h | ⟨g, cap, cur, e1, hb', r⟩
  · exact Or.inl h
  · exact Or.inr ⟨g, cap, cur, e1, Nat.le_trans hb hb', r⟩
theorem Kl.form {w : World} {base M : Nat} {e : TypeId} {v : Value} {ks : List Nd} (h : Kl w base M e v ks) : ∃ g cap, v = .slice (some ⟨g, 0, none⟩) ks.length cap ∧ base ≤ g ∧ g < w.heap.size ∧ ks.length ≤ cap ∧ cap ≤ maxLen ∧ RowN w (fun b => b < M) g 0 ks := by
  obtain ⟨cs, h1, h2, h3⟩ := h
  rcases owns_cases5 h1 with ⟨rfl, hn, _⟩ | ⟨g, cap, cur, rfl, hg, hB, hn, hcm, hs, hx, hl⟩
  · exact absurd (List.length_eq_zero_iff.1 hn) h3
  · exact ⟨g, cap, rfl, hg, hB.lt, hn, hcm, h2.row (fun j u hj => by have := h1.cells (g := g) rfl j u hj; rw [addr_at] at this; exact this)⟩
/-- It reads as these nodes. -/
theorem Kl.ks {w : World} {base M : Nat} {e : TypeId} {v : Value} {ks : List Nd} (h : Kl w base M e v ks) : KsV w (fun _ => True) v ks := by
  obtain ⟨g, cap, rfl, hg, hlt, hn, hcm, hr⟩ := h.form
  obtain ⟨cs, _, _, h3⟩ := h
  refine ⟨g, Or.inr ⟨?_, trivial, cap, rfl, hn, hcm⟩, RowN.keptP (fun _ _ _ => rfl) (fun _ _ _ => trivial) rfl hr⟩
  cases ks with
  | nil => exact absurd rfl h3
  | cons x r => simp
/-- append of a row of nodes to a row of one's own. -/
theorem append_rows (base M : Nat) (hMb : M ≤ base) (v u : Value) (ks ls : List Nd) (b2 : Nat) (w : World) (ty : TypeId) (hv : Kl w base M 39 v ks) (hu : Kl w b2 M 39 u ls) (hl : ks.length + ls.length ≤ 100000) (hbase : base ≤ w.heap.size) :
    ∃ v' w', (Builtin.append_ #[36, 36] ty #[v, u]).run Tryd.prog w = .ok v' w' ∧ Kl w' base M 39 v' (ks ++ ls) ∧ w.grownBy w' v.ownBlock := by
  obtain ⟨i5, hi, hz0, hz1, hz2⟩ := info_parts info39
  obtain ⟨g2, c2, rfl, hg2, hlt2, hn2, hcm2, hr2⟩ := hu.form
  obtain ⟨ds, hd1, hd2⟩ := hr2.cellsN
  obtain ⟨cs, h1, h2, h3⟩ := hv
  have hls : 0 < ls.length := by
    obtain ⟨_, _, _, h⟩ := hu
    cases ls with
    | nil => exact absurd rfl h
    | cons x r => simp
  obtain ⟨v', w', hr, h4, h5, _⟩ := append_where5 (P := Tryd.prog) base 36 ty 39 i5 zNd 64 Tryd.underlying36 hi hz0 hz1 hz2 rfl v ks.length cs h1 ⟨g2, 0, none⟩ ls.length c2 ds hls (by rw [hd1.len]; omega) (fun j u hj => by rw [addr_at]; exact hd2 j u hj) hd1.one (by omega) (by decide) hbase
  have hK : Kp w w' (fun b => b < M) := Kp.of_grown h5 (fun b hb e => by have := (h1.lt b e.symm).1; omega)
  refine ⟨v', w', hr, ⟨cs ++ ds, by rw [List.length_append]; exact h4, CellsN.append (hd1.keptP hK (fun _ h _ => h)) (h2.keptP hK (fun _ h _ => h)), by simp [h3]⟩, h5⟩
theorem append_ls {ops : Array Oper} {rest : List Oper} {o : Oper} {a : Act} {w : World} {Q : Exit → Act → World → Prop} (s x : Operand) (hgd : o.guard = none) (ho : o.op = Op.call { callee := Callee.builtin Builtin.append, args := #[s, x], argTypes := #[36, 36] })
    (base M : Nat) (hMb : M ≤ base) (v u : Value) (ks ls : List Nd) (b2 : Nat) (hv : Kl w base M 39 v ks) (hu : Kl w b2 M 39 u ls) (hl : ks.length + ls.length ≤ 100000) (hbase : base ≤ w.heap.size) (hs : a.eval s = v) (hx : a.eval x = u)
    (h : ∀ v' w', Kl w' base M 39 v' (ks ++ ls) → w.grownBy w' v.ownBlock → wpList Tryd.prog ops Q rest (a.put o.dst v') w') : wpList Tryd.prog ops Q (o :: rest) a w := by
  obtain ⟨v', w', hr, h2, h3⟩ := append_rows base M hMb v u ks ls b2 w o.type hv hu hl hbase
  refine wpList_plain hgd fun K hK => ?_
  unfold Oper.wp execOp
  simp only [ho, resolve, invoke, builtin, Sem.run_bind, Sem.run_pure, Result.andThen_ok, List.map_toArray, List.map_cons, List.map_nil, hs, hx, hr]
  exact hK _ _ (h v' w' h2 h3)
theorem Kl.under {w : World} {base M : Nat} {e : TypeId} {v : Value} {ks : List Nd} (h : Kl w base M e v ks) : ∀ r, v.ownBlock = some r → base ≤ r := fun r hr => by
  obtain ⟨cs, h1, _⟩ := h
  exact (h1.lt r hr).1
set_option maxRecDepth 100000 in
set_option maxHeartbeats 1000000 in
theorem list_step (k t : Int) (s : ByteArray) (n : Int) (q0 : Value) (ks : List Nd) (M : Nat) (w : World) (hM : M ≤ w.heap.size) (hn : ks.length ≤ 255) (hcnt : Nd.cnts ks ≤ 10000) (hks : KsV w (fun b => b < M) q0 ks)
    (ih : ∀ y ∈ ks, ∀ (v : Value) (W : World), M ≤ W.heap.size → NdV W (fun b => b < M) v y → Calls Tryd.prog 11 #[v] W fun e w' => ∃ q, e = .returned q ∧ Kl w' W.heap.size M 39 q y.all ∧ W.grownBy w' none) : Calls Tryd.prog 11 #[.agg #[.int .i64 k, .int .i64 t, .string s, .int .i64 n, q0]] w fun e w' => ∃ q, e = .returned q ∧ Kl w' w.heap.size M 39 q (.mk k t s n ks :: Nd.alls ks) ∧ w.grownBy w' none := by
  have IH := hid ih
  have HK := hid hks
  obtain ⟨p0, cap, eq0, _⟩ := hks.form
  subst eq0
  clear ih hks
  obtain ⟨L, hL⟩ : ∃ L, ks.length = L := ⟨_, rfl⟩
  have HL := hid hL
  rw [hL] at hn HK ⊢
  clear hL
  have i1 : (L : Int) ≤ 255 := by omega
  have KS : Hid (Kl ((w.alloc (.cells #[.int .i64 k, .int .i64 t, .string s, .int .i64 n, .slice p0 L cap] 39)).alloc (.cells #[.int .i64 k, .int .i64 t, .string s, .int .i64 n, .slice p0 L cap] 39)) (w.heap.size + 1) M 39 (.slice (some ⟨w.heap.size + 1, 0, none⟩) 1 1) [.mk k t s n ks]) := by
    have b1 := Blk.new (w.alloc (.cells #[.int .i64 k, .int .i64 t, .string s, .int .i64 n, .slice p0 L cap] 39)) 39 #[.int .i64 k, .int .i64 t, .string s, .int .i64 n, .slice p0 L cap]
    rw [World.size_alloc] at b1
    exact ⟨[.int .i64 k, .int .i64 t, .string s, .int .i64 n, .slice p0 L cap], ⟨rfl, Or.inr ⟨w.heap.size + 1, 1, _, rfl, Nat.le_refl _, b1, Nat.le_refl _, by decide, rfl, rfl⟩⟩, ⟨_, [], rfl, (HK.out.kept (grown_alloc (grown_alloc (grown_refl w none) _) _)), rfl⟩, by simp⟩
  go_enter Tryd.func11, Tryd.ntmps11
  go_wp2
  go_loopw [3, 4] (fun v i wr => ∃ (j : Nat) (l : List Nd), j ≤ L ∧ i = .int .i64 j ∧ l = .mk k t s n ks :: Nd.alls (ks.take j) ∧ Kl wr (w.heap.size + 1) M 39 v l ∧ w.grownBy wr none ∧ Blk wr w.heap.size 39 #[.int .i64 k, .int .i64 t, .string s, .int .i64 n, .slice p0 L cap]) (fun _ i _ => L - (intOf i).toNat)
  case atStart => exact ⟨0, [.mk k t s n ks], Nat.zero_le _, rfl, by rw [List.take_zero, Nd.alls], KS.out, grown_alloc (grown_alloc (grown_refl _ _) _) _, (Blk.new _ _ _).alloc _⟩
  case round =>
    obtain ⟨j, l, hj, rfl, hl, hkl, hg, hB⟩ := hrel
    have G := hid hg
    have B := hid hB
    have KL := hid hkl
    have EL := hid hl
    have j0 : (0 : Int) ≤ j := by omega
    have x4 : wr.cell? ⟨w.heap.size, 4, none⟩ = some (.slice p0 L cap) := by rw [hB.cell]; rfl
    obtain ⟨gv, cv, ev, hgv, hgl, _⟩ := hkl.form
    subst ev
    have hw1 : w.heap.size + 1 ≤ wr.heap.size := by omega
    have hlen : l.length ≤ 1 + Nd.cnts (ks.take j) := by rw [hl, List.length_cons, Nd.alls_len]; omega
    by_cases hlt : j < L
    · have j1 : (j : Int) < L := by omega
      have hjk : j < ks.length := by rw [HL.out]; exact hlt
      obtain ⟨g', hg', _, hat⟩ := (HK.out.kept hg).at j hjk
      subst hg'
      obtain ⟨q, c0, c1, c2, c3, c4, hkq⟩ := hat.cells
      rw [Nat.mul_comm 5 j] at c0 c1 c2 c3 c4
      have CC : Hid (Calls Tryd.prog 11 #[.agg #[.int .i64 (ks[j]).kind, .int .i64 (ks[j]).ty, .string (ks[j]).txt, .int .i64 (ks[j]).num, q]] wr fun e w' => ∃ q, e = .returned q ∧ Kl w' wr.heap.size M 39 q (ks[j]).all ∧ wr.grownBy w' none) := IH.out _ (List.getElem_mem hjk) _ wr (Nat.le_trans hM hg.size) ⟨q, rfl, hkq⟩
      obtain ⟨p', cap', hq, _⟩ := hkq.form
      subst hq
      have TS : Nd.mk k t s n ks :: Nd.alls (ks.take (j + 1)) = l ++ (ks[j]).all := by
        rw [hl, List.take_succ_eq_append_getElem hjk, Nd.alls_append, List.cons_append]
        show _ = _ :: (_ ++ _)
        rw [Nd.alls, Nd.alls, List.append_nil]
      have TM : l.length + (ks[j]).all.length ≤ 100000 := by
        have h2 : Nd.cnts ks = Nd.cnts (ks.take (j + 1)) + Nd.cnts (ks.drop (j + 1)) := by rw [← Nd.cnts_append, List.take_append_drop]
        have h3 : Nd.cnts (ks.take (j + 1)) = Nd.cnts (ks.take j) + (ks[j]).cnt := by
          rw [List.take_succ_eq_append_getElem hjk, Nd.cnts_append]
          rfl
        rw [Nd.all_len]
        omega
      have TT := hid TS
      have TN := hid TM
      clear hg hB hkq hat IH HK TS TM hkl hl hlen
      generalize (ks[j]).all = ya at *
      generalize (ks[j]).kids.length = nk at *
      go_wp2_with (first
        | (go_at_call 11; refine CC.out.mono ?_; clear CC; rintro e w2 ⟨q2, rfl, hk2, hg2⟩; have G2 := hid (grown_none G.out hg2); have B2 := hid (B.out.kept hg2 (by simp)); have K2 := hid hk2; have KL2 := hid (KL.out.kept hg2); obtain ⟨g2, cc2, e2, hb2, hlt2, _⟩ := hk2.form; subst e2; have hw2 : w.heap.size + 1 ≤ w2.heap.size := Nat.le_trans hw1 hg2.size; clear hg2 hk2)
        | (at_builtin; refine append_ls (.tmp 14) (.tmp 20) rfl rfl (w.heap.size + 1) M (by omega) _ _ l ya wr.heap.size KL2.out K2.out TN.out hw2 rfl rfl ?_; intro v5 u5 h5 hg5; have K5 := hid h5; have RU := KL2.out.under; have B5 := hid (B2.out.kept hg5 (fun e => by have := RU _ e.symm; omega)); have G5 := hid (grown_ob' G2.out hg5 (fun x hx => by have := RU _ hx; omega)); clear h5 hg5 RU))
      go_roundw
      case rel => exact ⟨j + 1, l ++ ya, by omega, by go_num, TT.out.symm, K5.out, G5.out, B5.out⟩
      case measure => simp [intOf]; omega
    · have hjL : j = L := by omega
      subst hjL
      have j1 : ¬ (j : Int) < j := by omega
      have TA : ks.take j = ks := List.take_of_length_le (by rw [HL.out]; exact Nat.le_refl _)
      rw [TA] at EL
      clear hg hB IH HK TA hl hlen hkl
      go_wp2
      go_ret
      exact ⟨_, rfl, by rw [← EL.out]; exact KL.out.mono (by omega), G.out⟩
theorem list_any (M : Nat) : ∀ (x : Nd), x.ok → x.cnt ≤ 10000 → ∀ (v : Value) (w : World), M ≤ w.heap.size → NdV w (fun b => b < M) v x → Calls Tryd.prog 11 #[v] w fun e w' => ∃ q, e = .returned q ∧ Kl w' w.heap.size M 39 q x.all ∧ w.grownBy w' none := by
  refine Nd.indA ?_
  intro k t s n ks ih hok hc v w hM ⟨q, hv, hk⟩
  subst hv
  rw [Nd.cnt] at hc
  rw [Nd.all]
  refine list_step k t s n q ks M w hM hok.2.1 (by omega) hk (fun y hy v W hW hv => ih y hy (Nd.oks_mem hok.2.2 y hy) ?_ v W hW hv)
  obtain ⟨a, b, rfl⟩ := List.append_of_mem hy
  rw [Nd.cnts_append, Nd.cnts] at hc
  omega
end Go.Proofs.YtdodammplhlihaaDoor
