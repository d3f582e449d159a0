/-
  ParseRanks: the law's own walk.
-/
import Derived.Test.YtajoncmmdeahnaaGreatDoorKRp
import Derived.Test.YtajoncmmdeahnaaGreatDoorYAt
import Derived.Maps.AppendAt
namespace Go.Proofs.YtajoncmmdeahnaaGreatDoor
namespace Rk
open Pm Pt Go.RowKit
def NumsV (w : World) (v : Value) (xs : List Int) : Prop := ∃ pa c g o, v = .slice pa xs.length c ∧ (0 < xs.length → pa = some ⟨g, o, none⟩) ∧ ∀ i, (h : i < xs.length) → w.cell? ⟨g, o + i, none⟩ = some (.int .i64 xs[i])
def pkR (x : Int) : Nat := ((x.tmod 13 + 13).tmod 13).toNat
theorem pkR_lt (x : Int) : pkR x < 13 := by
  unfold pkR
  have h1 : (x.tmod 13 + 13).tmod 13 < 13 := Int.tmod_lt_of_pos _ (by decide)
  omega
def sgs (xs : List Int) : List Nat := (xs.take 12).map pkR
def nmV (l : List It) : List Value := .string ⟨#[97]⟩ :: l.map fun x => .string ⟨x.2.toArray⟩
def btV (l : List It) : List Value := l.map fun x => .string ⟨x.1.toArray⟩
theorem itR_snoc : ∀ (σ : List Nat) (i s : Nat), itR i (σ ++ [s]) = itR i σ ++ [(sgR s, nmR (i + σ.length))]
  | [], i, s => rfl
  | a :: r, i, s => by
    show _ :: itR (i + 1) (r ++ [s]) = _
    rw [itR_snoc r (i + 1) s, List.length_cons, show i + 1 + r.length = i + (r.length + 1) by omega]
    rfl
theorem bdR_snoc : ∀ (σ : List Nat) (i s : Nat), bdR i (σ ++ [s]) = bdR i σ ++ (32 :: (sgR s ++ (32 :: nmR (i + σ.length))))
  | [], i, s => by simp [bdR]
  | a :: r, i, s => by
    show 32 :: (sgR a ++ (32 :: (nmR i ++ bdR (i + 1) (r ++ [s])))) = 32 :: (sgR a ++ (32 :: (nmR i ++ bdR (i + 1) r))) ++ _
    rw [bdR_snoc r (i + 1) s, List.length_cons, show i + 1 + r.length = i + (r.length + 1) by omega]
    simp [List.append_assoc]
theorem info9 : (Tryz.prog.info? 9).map (fun i => (i.zero, i.size, i.bytes)) = some (some (.string ⟨#[]⟩), 1, 16) := by kernel_rfl
section
variable {ops : Array Oper} {rest : List Oper} {o : Oper} {a : Act} {Q : Exit → Act → World → Prop} {w : World}
theorem append_s9 (base : Nat) (v : Value) (l : List Value) (t : ByteArray) (ad : Addr) (cc : Nat) (hrow : w.ownsRow base 9 1 v l.length l) (hcell : w.cell? ad = some (.string t)) (hl : l.length ≤ 1000000) (hbase : base ≤ w.heap.size) (s x : Operand)
    (hgd : o.guard = none) (ho : o.op = .call { callee := .builtin .append, args := #[s, x], argTypes := #[23, 23] }) (hs : a.eval s = v) (hx : a.eval x = .slice (some ad) 1 cc)
    (h : ∀ v' w', w'.ownsRow base 9 1 v' (l.length + 1) (l ++ [.string t]) → w.grownBy w' v.ownBlock → (v'.ownBlock = v.ownBlock ∨ v'.ownBlock = some w.heap.size) → wpList Tryz.prog ops Q rest (a.put o.dst v') w') : wpList Tryz.prog ops Q (o :: rest) a w := by
  obtain ⟨i9, hi, hz0, hz1, hz2⟩ := info_parts info9
  refine Go.wpList_append_own_at w hgd s x 23 ho base 9 i9 _ 1 16 Tryz.underlying23 hi hz0 hz1 hz2 rfl (by decide) v l.length l hs hrow ad 1 cc [.string t] hx rfl (fun j u hj => ?_) (fun u hu => ?_) (by unfold maxLen; omega) (by omega) hbase ?_
  · rcases j with _ | j
    · have e : Value.string t = u := Option.some.inj hj
      have e2 : ad.add 0 = ad := rfl
      rw [e2, ← e]
      exact hcell
    · exact absurd hj (by simp)
  · rw [List.mem_singleton] at hu
    rw [hu]; rfl
  · intro v' w' h2 h3 _ h5
    exact h v' w' h2 h3 h5
end
def SGS : Array Value := #[.string ⟨#[124, 124]⟩, .string ⟨#[38, 38]⟩, .string ⟨#[60]⟩, .string ⟨#[60, 61]⟩, .string ⟨#[62]⟩, .string ⟨#[62, 61]⟩, .string ⟨#[61, 61]⟩, .string ⟨#[33, 61]⟩, .string ⟨#[43]⟩, .string ⟨#[45]⟩, .string ⟨#[42]⟩, .string ⟨#[47]⟩, .string ⟨#[37]⟩]
theorem SGS_at (q : Nat) (h : q < 13) : SGS[q]? = some (.string ⟨(sgR q).toArray⟩) := by
  rcases (show q = 0 ∨ q = 1 ∨ q = 2 ∨ q = 3 ∨ q = 4 ∨ q = 5 ∨ q = 6 ∨ q = 7 ∨ q = 8 ∨ q = 9 ∨ q = 10 ∨ q = 11 ∨ q = 12 by omega) with rfl | rfl | rfl | rfl | rfl | rfl | rfl | rfl | rfl | rfl | rfl | rfl | rfl <;> rfl
theorem sgR_len (q : Nat) (h : q < 13) : (sgR q).length ≤ 2 := by
  rcases (show q = 0 ∨ q = 1 ∨ q = 2 ∨ q = 3 ∨ q = 4 ∨ q = 5 ∨ q = 6 ∨ q = 7 ∨ q = 8 ∨ q = 9 ∨ q = 10 ∨ q = 11 ∨ q = 12 by omega) with rfl | rfl | rfl | rfl | rfl | rfl | rfl | rfl | rfl | rfl | rfl | rfl | rfl <;> decide
theorem bdR_len : ∀ (σ : List Nat) (i : Nat), (∀ s ∈ σ, s < 13) → (bdR i σ).length ≤ 5 * σ.length
  | [], _, _ => Nat.le_refl _
  | s :: r, i, h => by
    have h1 := bdR_len r (i + 1) (fun y hy => h y (List.mem_cons_of_mem _ hy))
    have h2 := sgR_len s (h s (List.mem_cons_self ..))
    show (32 :: (sgR s ++ (32 :: (nmR i ++ bdR (i + 1) r)))).length ≤ _
    simp [nmR]
    omega
structure LI (w : World) (l : List It) (i : Nat) (vn vb : Value) (wr : World) : Prop where
  sg : Blk wr w.heap.size 9 SGS
  n : wr.ownsRow (w.heap.size + 1) 9 1 vn (i + 1) (nmV l)
  b : wr.ownsRow (w.heap.size + 1) 9 1 vb i (btV l)
  nn : ∃ g, vn.ownBlock = some g
  bb : ∃ g, vb.ownBlock = some g
  ne : vn.ownBlock ≠ vb.ownBlock
  g : w.grownBy wr none
theorem LI.mid {w wr W1 w2 W2 : World} {l : List It} {i : Nat} {vn vb : Value} (h : LI w l i vn vb wr) (G1 : wr.grownBy W1 none) (hg : W1.grownBy w2 vn.ownBlock) (G2 : w2.grownBy W2 none) : W2.ownsRow (w.heap.size + 1) 9 1 vb i (btV l) := by
  refine Lw.row_none ((Lw.row_none h.b G1).kept hg ?_) G2
  obtain ⟨b, hb⟩ := h.bb
  rw [hb]
  refine Or.inr (fun e => h.ne ?_)
  rw [hb, ← e]
theorem LI.step {w wr W1 w2 W2 w3 : World} {l : List It} {i : Nat} {vn vb vn' vb' : Value} (h : LI w l i vn vb wr) (x : It) (G1 : wr.grownBy W1 none) (hr : w2.ownsRow (w.heap.size + 1) 9 1 vn' (i + 1 + 1) (nmV l ++ [.string ⟨x.2.toArray⟩])) (hg : W1.grownBy w2 vn.ownBlock) (ho : vn'.ownBlock = vn.ownBlock ∨ vn'.ownBlock = some W1.heap.size) (G2 : w2.grownBy W2 none) (hr2 : w3.ownsRow (w.heap.size + 1) 9 1 vb' (i + 1) (btV l ++ [.string ⟨x.1.toArray⟩])) (hg2 : W2.grownBy w3 vb.ownBlock) (ho2 : vb'.ownBlock = vb.ownBlock ∨ vb'.ownBlock = some W2.heap.size) : LI w (l ++ [x]) (i + 1) vn' vb' w3 := by
  obtain ⟨a, ha⟩ := h.nn
  obtain ⟨b, hb⟩ := h.bb
  have la := h.n.lt a ha
  have lb := h.b.lt b hb
  have hne : a ≠ b := fun e => h.ne (by rw [ha, hb, e])
  have s1 := G1.size
  have s2 := hg.size
  have s3 := G2.size
  have s4 := h.g.size
  obtain ⟨a', ha'⟩ : ∃ a', vn'.ownBlock = some a' := by
    rcases ho with e | e
    · exact ⟨a, e.trans ha⟩
    · exact ⟨_, e⟩
  have la' := hr.lt a' ha'
  have hab : a' ≠ b := by
    rcases ho with e | e
    · rw [ha', ha] at e
      rw [Option.some.inj e]
      exact hne
    · rw [ha'] at e
      rw [Option.some.inj e]
      omega
  rw [ha] at hg
  rw [hb] at hg2
  refine ⟨((((h.sg.kept G1 (by simp)).kept hg (fun e => by have := Option.some.inj e; omega)).kept G2 (by simp)).kept hg2 (fun e => by have := Option.some.inj e; omega)), ?_, ?_, ⟨a', ha'⟩, ?_, ?_, ?_⟩
  · have e : nmV (l ++ [x]) = nmV l ++ [.string ⟨x.2.toArray⟩] := by simp [nmV]
    rw [e]
    refine (Lw.row_none hr G2).kept hg2 ?_
    rw [ha']
    exact Or.inr (fun e => hab (Option.some.inj e))
  · have e : btV (l ++ [x]) = btV l ++ [.string ⟨x.1.toArray⟩] := by simp [btV]
    rw [e]
    exact hr2
  · rcases ho2 with e | e
    · exact ⟨b, e.trans hb⟩
    · exact ⟨_, e⟩
  · intro e
    rw [ha'] at e
    rcases ho2 with e2 | e2
    · rw [e2, hb] at e
      exact hab (Option.some.inj e)
    · rw [e2] at e
      have := Option.some.inj e
      omega
  · have g1 := grown_none h.g G1
    have g2 : w.grownBy w2 none := ⟨hg.os.trans g1.os, hg.tape.trans g1.tape, hg.output.trans g1.output, Nat.le_trans g1.size hg.size, fun k hk _ => (hg.block k (Nat.lt_of_lt_of_le hk g1.size) (fun e => by have := Option.some.inj e; omega)).trans (g1.block k hk (by simp))⟩
    have g3 := grown_none g2 G2
    exact ⟨hg2.os.trans g3.os, hg2.tape.trans g3.tape, hg2.output.trans g3.output, Nat.le_trans g3.size hg2.size, fun k hk _ => (hg2.block k (Nat.lt_of_lt_of_le hk g3.size) (fun e => by have := Option.some.inj e; omega)).trans (g3.block k hk (by simp))⟩
theorem LI.nm {w wr : World} {l : List It} {i cn : Nat} {pn : Option Addr} {vb : Value} (h : LI w l i (.slice pn (i + 1) cn) vb wr) : ∃ g, pn = some ⟨g, 0, none⟩ ∧ NmAt wr g 0 [97] l := by
  have hn := h.n
  have e : nmV l = ((⟨#[97]⟩ : ByteArray) :: l.map fun x => ⟨x.2.toArray⟩).map Value.string := by simp [nmV]
  rw [e] at hn
  obtain ⟨g, hg⟩ : ∃ g, pn = some ⟨g, 0, none⟩ := by
    rcases hn.2 with ⟨h1, h2⟩ | ⟨g, cap, cur, h1, _⟩
    · omega
    · cases h1
      exact ⟨g, rfl⟩
  subst hg
  refine ⟨g, rfl, ?_, fun j hj => ?_⟩
  · have h1 := Ck.row_cell hn 0 (by simp)
    exact h1
  · have h1 := Ck.row_cell hn (j + 1) (by simp; omega)
    rw [Nat.zero_add]
    simpa using h1
theorem LI.bt {w wr : World} {l : List It} {i cb : Nat} {pb : Option Addr} {vn : Value} (h : LI w l i vn (.slice pb i cb) wr) : i ≠ 0 → ∃ g o, pb = some ⟨g, o, none⟩ ∧ BtAt wr g o l := by
  intro h0
  have hn := h.b
  have e : btV l = (l.map fun x => (⟨x.1.toArray⟩ : ByteArray)).map Value.string := by simp [btV]
  rw [e] at hn
  obtain ⟨g, hg⟩ : ∃ g, pb = some ⟨g, 0, none⟩ := by
    rcases hn.2 with ⟨h1, h2⟩ | ⟨g, cap, cur, h1, _⟩
    · omega
    · cases h1
      exact ⟨g, rfl⟩
  subst hg
  refine ⟨g, 0, rfl, fun j hj => ?_⟩
  have h1 := Ck.row_cell hn j (by simpa using hj)
  rw [Nat.zero_add]
  simpa using h1
theorem cut_cnt : ∀ (f : Nat) (a : List UInt8) (l : List It), l.length ≤ f → (cutF f a l).cnt ≤ 2 * l.length + 1
  | 0, a, l, _ => by
    show (vN a).cnt ≤ _
    simp [vN, Nd.cnt, Nd.cnts]
  | f + 1, a, [], _ => by
    show (vN a).cnt ≤ _
    simp [vN, Nd.cnt, Nd.cnts]
  | f + 1, a, x :: r, h => by
    have hk := wk_lt (x :: r) (by simp)
    rw [List.length_cons] at h
    unfold cutF
    rw [List.getElem?_eq_getElem hk]
    have h1 := cut_cnt f a ((x :: r).take (wk (x :: r))) (by rw [List.length_take, List.length_cons]; rw [List.length_cons] at hk; omega)
    have h2 := cut_cnt f ((x :: r)[wk (x :: r)]).2 ((x :: r).drop (wk (x :: r) + 1)) (by rw [List.length_drop, List.length_cons]; omega)
    rw [List.length_take, List.length_cons] at h1
    rw [List.length_drop, List.length_cons] at h2
    rw [List.length_cons] at hk
    show (bN _ _ _).cnt ≤ _
    simp only [bN, Nd.cnt, Nd.cnts, List.length_cons]
    omega
theorem vN_ok (a : List UInt8) (h : a.length ≤ 100) : (vN a).ok := by
  unfold vN
  rw [Nd.ok]
  exact ⟨⟨by decide, by decide, by decide, by decide, h, by decide, by decide⟩, by simp, by rw [Nd.oks]; trivial⟩
theorem cut_ok : ∀ (f : Nat) (a : List UInt8) (l : List It), a.length ≤ 100 → (∀ x ∈ l, x.1.length ≤ 100 ∧ x.2.length ≤ 100) → (cutF f a l).ok
  | 0, a, l, ha, _ => vN_ok a ha
  | f + 1, a, [], ha, _ => vN_ok a ha
  | f + 1, a, x :: r, ha, hx => by
    have hk := wk_lt (x :: r) (by simp)
    unfold cutF
    rw [List.getElem?_eq_getElem hk]
    have hm := hx _ (List.getElem_mem hk)
    have h1 := cut_ok f a ((x :: r).take (wk (x :: r))) ha (fun u hu => hx u (List.mem_of_mem_take hu))
    have h2 := cut_ok f ((x :: r)[wk (x :: r)]).2 ((x :: r).drop (wk (x :: r) + 1)) hm.2 (fun u hu => hx u (List.mem_of_mem_drop hu))
    show (bN _ _ _).ok
    unfold bN
    rw [Nd.ok]
    exact ⟨⟨by decide, by decide, by decide, by decide, hm.1, by decide, by decide⟩, by simp, by rw [Nd.oks, Nd.oks, Nd.oks]; exact ⟨h1, h2, trivial⟩⟩
theorem it_small : ∀ (σ : List Nat) (i : Nat), (∀ s ∈ σ, s < 13) → ∀ x ∈ itR i σ, x.1.length ≤ 100 ∧ x.2.length ≤ 100 ∧ SgOk x.1
  | [], i, _, x, hx => by cases hx
  | s :: r, i, h, x, hx => by
    rcases List.mem_cons.1 hx with e | e
    · subst e
      have h1 := sgR_len s (h s (List.mem_cons_self ..))
      exact ⟨by show (sgR s).length ≤ 100; omega, by show 1 ≤ 100; decide, s, h s (List.mem_cons_self ..), rfl⟩
    · exact it_small r (i + 1) (fun y hy => h y (List.mem_cons_of_mem _ hy)) x e
theorem it_two : ∀ (σ : List Nat) (i : Nat), (∀ s ∈ σ, s < 13) → ∀ x ∈ itR i σ, x.1.length ≤ 2 ∧ x.2.length = 1
  | [], i, _, x, hx => by cases hx
  | s :: r, i, h, x, hx => by
    rcases List.mem_cons.1 hx with e | e
    · subst e
      exact ⟨sgR_len s (h s (List.mem_cons_self ..)), rfl⟩
    · exact it_two r (i + 1) (fun y hy => h y (List.mem_cons_of_mem _ hy)) x e
theorem pr_ok (σ : List Nat) (h : ∀ s ∈ σ, s < 13) : (prR σ).ok := by
  have h1 : (cutT [97] (itR 0 σ)).ok := cut_ok _ _ _ (by decide) (fun x hx => ⟨(it_small σ 0 h x hx).1, (it_small σ 0 h x hx).2.1⟩)
  unfold prR nP
  simp only [Nd.ok, Nd.oks, List.length_singleton]
  exact ⟨⟨by decide, by decide, by decide, by decide, by decide, by decide, by decide⟩, by decide, ⟨⟨by decide, by decide, by decide, by decide, by decide, by decide, by decide⟩, by decide, ⟨⟨by decide, by decide, by decide, by decide, by decide, by decide, by decide⟩, by decide, ⟨⟨by decide, by decide, by decide, by decide, by decide, by decide, by decide⟩, by decide, h1, trivial⟩, trivial⟩, trivial⟩, trivial⟩
theorem pr_cnt (σ : List Nat) (h : σ.length ≤ 12) : (prR σ).cnt ≤ 100000 := by
  have h1 : (cutT [97] (itR 0 σ)).cnt ≤ 2 * (itR 0 σ).length + 1 := cut_cnt _ _ _ (Nat.le_refl _)
  rw [itR_len] at h1
  unfold prR nP
  simp only [Nd.cnt, Nd.cnts]
  omega
theorem all_head (x : Nd) : ∃ r, x.all = x :: r := by
  cases x
  rw [Nd.all]
  exact ⟨_, rfl⟩
theorem pr_four (σ : List Nat) : (prR σ).all[4]? = some (cutT [97] (itR 0 σ)) := by
  obtain ⟨r, hr⟩ := all_head (cutT [97] (itR 0 σ))
  unfold prR nP
  simp only [Nd.all, Nd.alls, hr, List.append_nil]
  rfl
def txL (xs : List Int) (i : Nat) : List UInt8 := 97 :: bdR 0 ((sgs xs).take i)
theorem NmAt.kept {w w' : World} {g o : Nat} {a : List UInt8} {l : List It} (h : NmAt w g o a l) (k : w.grownBy w' none) : NmAt w' g o a l := ⟨((grown_below k).cell (p := ⟨g, o, none⟩) (World.block_lt_of_cell? _ _ h.1)).trans h.1, fun i hi => ((grown_below k).cell (p := ⟨g, o + (i + 1), none⟩) (World.block_lt_of_cell? _ _ (h.2 i hi))).trans (h.2 i hi)⟩
theorem BtAt.kept {w w' : World} {g o : Nat} {l : List It} (h : BtAt w g o l) (k : w.grownBy w' none) : BtAt w' g o l := fun i hi => ((grown_below k).cell (p := ⟨g, o + i, none⟩) (World.block_lt_of_cell? _ _ (h i hi))).trans (h i hi)
theorem pr_len : ∀ (n : Nat) (l : List It) (f : Nat) (a t : List UInt8), l.length = n → a.length = 1 → (∀ x ∈ l, x.1.length ≤ 2 ∧ x.2.length = 1) → prF f (cutT a l) = some t → t.length ≤ 1 + 7 * n ∧ t ≠ [] := by
  intro n
  induction n using Nat.strongRecOn with
  | _ n IH =>
    intro l f a t hl ha hx ht
    by_cases hz : l = []
    · subst hz
      have e := pr_v f a t ht
      subst e
      exact ⟨by omega, fun e => by rw [e] at ha; cases ha⟩
    have hk := wk_lt l hz
    rw [cutT_at a l hz] at ht
    obtain ⟨f', t1, t2, _, h1, h2, rfl⟩ := pr_b _ _ _ _ _ ht
    have hm := hx _ (List.getElem_mem hk)
    have i1 := IH (wk l) (by omega) (l.take (wk l)) f' a t1 (by rw [List.length_take]; omega) ha (fun u hu => hx u (List.mem_of_mem_take hu)) h1
    have i2 := IH (n - (wk l + 1)) (by omega) (l.drop (wk l + 1)) f' _ t2 (by rw [List.length_drop]; omega) hm.2 (fun u hu => hx u (List.mem_of_mem_drop hu)) h2
    refine ⟨?_, by simp⟩
    have h3 := i1.1
    have h4 := i2.1
    have h5 := hm.1
    simp only [List.length_append, List.length_cons, List.length_nil]
    omega
theorem at_four (n X : Nd) (hn : n.all[4]? = some X) (hok : n.ok) (hc : n.cnt ≤ 100000) (P : Nat → Prop) (v : Value) (W : World) (hv : NdV W P v n) : Calls Tryz.prog 11 #[v, .int .i64 4] W fun e w' => ∃ p c, e = .returned (.tuple #[.agg #[.int .i64 X.kind, .int .i64 X.ty, .string X.txt, .int .i64 X.num, .slice p X.kids.length c], .bool true]) ∧ KsV w' (fun b => W.heap.size ≤ b) (.slice p X.kids.length c) X.kids ∧ W.grownBy w' none := by
  refine (An.at_any P n hok hc v 4 W hv).mono fun e w' h => ?_
  have hl : 4 < n.all.length := by
    rcases Nat.lt_or_ge 4 n.all.length with h | h
    · exact h
    · rw [List.getElem?_eq_none h] at hn; cases hn
  obtain ⟨h1, hg⟩ := h
  rcases h1 with ⟨i, hi, q, h4, he, hk⟩ | ⟨h0, _⟩
  · have h4' : i = 4 := by omega
    subst h4'
    rw [List.getElem?_eq_getElem hi] at hn
    rw [Option.some.inj hn] at he hk
    obtain ⟨p, c, rfl, _⟩ := hk.form
    exact ⟨p, c, he, hk, hg⟩
  · exact absurd rfl (h0 4 hl)
end Rk
end Go.Proofs.YtajoncmmdeahnaaGreatDoor
