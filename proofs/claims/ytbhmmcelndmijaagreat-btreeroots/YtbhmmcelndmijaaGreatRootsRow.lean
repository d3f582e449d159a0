/-
  BtreeRoots: for every list of acts and every number the law returns true, and its arguments read behind the call as they read before. No condition.
-/
import Derived.ProofKit
import Derived.Carry
import Derived.OpenShut
import Derived.Stop.Joined
import Derived.Deep.Strs
import Derived.Deep.Slices
import Derived.Deep.MidRow
import Derived.SliceStrings
import Derived.Test.YtbhmmcelndmijaaGreatMem
import Derived.Test.YtbhmmcelndmijaaGreatSl2
import Derived.Test.YtbhmmcelndmijaaGreatRows
import Derived.Test.YtbhmmcelndmijaaGreatKOn
/-
  The last step of a law's row: where the walk answers true and nothing below the heap's old size has turned, what the row says of the call holds. Nothing of the program is named here.
-/
namespace Go.Proofs.YtbhmmcelndmijaaGreat
open Go.ChangeShapes Go.WideShapes Go.ChangeAt Go.WideMaps Go.WideElems Go.RowKit
theorem trodAll_below {H : Type} {enc : TypeId × Value → H} {P : Program} (hl : laidOutB P = true) {W W' : World} (hb : Below W.heap.size W W') :
    ∀ (ts : List TypeId) (vs : List Value) (ds : List (DataW H)) (ps : List MemPlace), (ts.all fun t => P.readableRec t && decide (t < P.types.size)) = true → (∀ x ∈ ps, x.block < W.heap.size) →
      DataW.TrodAll enc P W 0 (fun _ => true) true ts vs ds ps → DataW.TrodAll enc P W' 0 (fun b => decide (b < W.heap.size)) true ts vs ds ps
  | [], [], [], _, _, _, h => h
  | t :: ts, v :: vs, d :: ds, ps, hr, hlt, h => by
    obtain ⟨p, q, h1, h2, rfl⟩ := h
    simp only [List.all_cons, Bool.and_eq_true, decide_eq_true_eq] at hr
    exact ⟨p, q, Below.trod hl hr.1.1 hr.1.2 h1 hb (fun x hx => hlt x (by simp [hx])), trodAll_below hl hb ts vs ds q hr.2 (fun x hx => hlt x (by simp [hx])) h2, rfl⟩
  | [], [], _ :: _, _, _, _, h => h.elim
  | [], _ :: _, _, _, _, _, h => h.elim
  | _ :: _, [], _, _, _, _, h => h.elim
  | _ :: _, _ :: _, [], _, _, _, h => h.elim
/-- True, and the arguments as they were. -/
theorem post_true {H : Type} {enc : TypeId × Value → H} {P : Program} {f : Func} {s : ChangeSpec} {b : TypeId} {W W' : World} {args : Array Value} {ds : List (DataW H)} {before : List MemPlace}
    (hW : DataW.Whole enc P f.params.toList s.vars false W args.toList ds [] before) (hv : s.vars = []) (hl : laidOutB P = true) (hr : (f.params.toList.all fun t => P.readableRec t && decide (t < P.types.size)) = true)
    (hres : f.resultTypes = #[b]) (hb : P.underlying b = some .bool) (hfn : s.fn H (ds ++ []) = { results := [.lit (.bool true)], args := ds }) (hg : W.grownBy W' none) :
    s.post enc P f false true false false W args (.bool true) W' := by
  have hbel := grown_below hg
  have hlt := fun p hp => hW.lt p hp
  have hW2 := hW
  obtain ⟨p, q, hA, hV, rfl, hfz, hnd⟩ := hW2
  rw [hv] at hV
  have hq : q = [] := hV
  subst hq
  rw [List.append_nil] at hlt
  refine ⟨ds, [], _, [], p, [], hW, ?_, ?_, ?_, hbel.frame _, fun h => by cases h⟩
  · rw [hfn, hres]
    exact trodAll_mk1 (shut_bool hb _)
  · rw [hfn]
    exact trodAll_below hl hbel _ _ _ _ hr hlt hA
  · rw [hfn, hv]
    rfl
end Go.Proofs.YtbhmmcelndmijaaGreat
/-
  An argument that is a list of acts, opened.
-/
namespace Go.Proofs.YtbhmmcelndmijaaGreat
open Go.ChangeMaps Go.ChangeShapes Go.WideShapes Go.ChangeAt Go.WideMaps Go.WideElems Go.RowKit Go.Deep
theorem cz3 : Tryz.prog.cellsOf 3 = 1 := by kernel_rfl
theorem cz9 : Tryz.prog.cellsOf 9 = 1 := by kernel_rfl
theorem cz32 : Tryz.prog.cellsOf 32 = 3 := by kernel_rfl
def acL (a : Ac) : List Value := [.int .i64 a.kind, .string a.key, .string a.val]
set_option maxRecDepth 100000 in
theorem open_ac {H : Type} {enc : TypeId × Value → H} {W : World} {held : Bool} {fuel : Nat} {cs : List Value} {x : DataW H × List MemPlace} (hf : DataW.trod enc Tryz.prog W 0 (fun _ => true) held fuel 32 cs = some x) :
    ∃ a : Ac, cs = acL a := by
  obtain ⟨xs, m, _, rfl, hl, hlen, hx⟩ := DataW.trod_struct Tryz.underlying32 hf
  rw [cz32] at hl
  match cs, hl with
  | [v0, v1, v2], _ =>
    match xs, hlen with
    | [y0, y1, y2], _ =>
      have g0 := hx 0 _ rfl
      have g1 := hx 1 _ rfl
      have g2 := hx 2 _ rfl
      simp [cz3, cz9] at g0 g1 g2
      obtain ⟨k, e0, _, w0⟩ := DataW.trod_int Tryz.underlying3 g0
      obtain ⟨s, e1, _, w1⟩ := DataW.trod_string Tryz.underlying9 g1
      obtain ⟨t, e2, _, w2⟩ := DataW.trod_string Tryz.underlying9 g2
      simp at e0 e1 e2
      subst e0; subst e1; subst e2
      exact ⟨⟨k, s, t⟩, rfl⟩
def noAc : Ac := ⟨0, ⟨#[]⟩, ⟨#[]⟩⟩
theorem open_acs {H : Type} {enc : TypeId × Value → H} {W : World} {held : Bool} {pa : Option Addr} {n cap : Nat} {d : DataW H} {p : List MemPlace} (h : DataW.Trod enc Tryz.prog W 0 (fun _ => true) held 22 (.slice pa n cap) d p) :
    ∃ (g o : Nat) (A : Nat → Ac), (0 < n → pa = some ⟨g, o, none⟩) ∧ (∀ j, j < n → AcAt W g (o + j * 3) (A j)) ∧ n ≤ 9223372036854775807 := by
  obtain ⟨fuel, hf⟩ := h
  rcases open_slice Tryz.underlying22 hf with ⟨hcs, _⟩ | ⟨a, len, cp, m, k, D, Pl, hcs, _, hl, hm, hmm, _, hx⟩
  · simp [Value.cells] at hcs
    obtain ⟨_, rfl, _⟩ := hcs
    exact ⟨0, 0, fun _ => noAc, fun h => by omega, fun j hj => by omega, by omega⟩
  · simp [Value.cells] at hcs
    obtain ⟨rfl, rfl, rfl⟩ := hcs
    simp only [if_true] at hmm
    have each : ∀ i, i < n → ∃ x : Ac, (∀ j u, j < 3 → (acL x)[j]? = some u → W.cell? (a.add (i * 3 + j)) = some u) := by
      intro i hi
      obtain ⟨cs', h1, h2⟩ := hx i (by omega)
      rw [cz32] at h1
      obtain ⟨_, hlen, hcell⟩ := World.cells?_some h1
      obtain ⟨x, rfl⟩ := open_ac h2
      refine ⟨x, fun j u hj hu => ?_⟩
      have q := hcell j (by omega)
      rw [add_add] at q
      rw [q, hu]
    by_cases h0 : 0 < n
    · have hs : a.spot = none := by
        obtain ⟨x, e0⟩ := each 0 h0
        have e1 := e0 0 _ (by decide) rfl
        exact World.cell?_spot (v := .int .i64 x.kind) (by simpa [Addr.add] using e1)
      obtain ⟨xb, xo, sp⟩ := a
      have hs' : sp = none := hs
      subst hs'
      refine ⟨xb, xo, fun i => if hi : i < n then (each i hi).choose else noAc, fun _ => rfl, fun i hi => ?_, by unfold maxLen at hm; omega⟩
      simp only [dif_pos hi]
      have hc := (each i hi).choose_spec
      generalize (each i hi).choose = x at *
      have cc : ∀ j u, j < 3 → (acL x)[j]? = some u → W.cell? ⟨xb, xo + i * 3 + j, none⟩ = some u := fun j u hj hu => by
        have := hc j u hj hu
        rw [Addr.add_mid] at this
        rw [Nat.add_assoc]
        exact this
      exact ⟨cc 0 _ (by decide) rfl, cc 1 _ (by decide) rfl, cc 2 _ (by decide) rfl⟩
    · exact ⟨0, 0, fun _ => noAc, fun h => by omega, fun j hj => by omega, by unfold maxLen at hm; omega⟩
end Go.Proofs.YtbhmmcelndmijaaGreat
/-
  gather, Pages: the places of a tree's pages, the root's the last.
-/
namespace Go.Proofs.YtbhmmcelndmijaaGreat
open Go.RowKit Go.Maps Go.Shelf
/-- What gather leaves: a row of its own, whose last place is the page's. -/
def GaP (base sz : Nat) (W : World) (v : Value) (l : List Int) (a : Int) (e : Ending) (w' : World) : Prop := ∃ v' l', e = .returned (.tuple #[v', .bool true]) ∧ w'.ownsRow base 3 1 v' l'.length (Pa.ints l') ∧ l'.getLast? = some a ∧ l'.length ≤ l.length + sz ∧ W.grownBy w' v.ownBlock ∧ (v'.ownBlock = v.ownBlock ∨ ∃ g, v'.ownBlock = some g ∧ W.heap.size ≤ g)
theorem grown_by {a b c : World} {o q : Option Nat} (h : a.grownBy b o) (g : b.grownBy c q) (hq : ∀ r, q = some r → o = some r ∨ a.heap.size ≤ r) : a.grownBy c o :=
  ⟨g.os.trans h.os, g.tape.trans h.tape, g.output.trans h.output, Nat.le_trans h.size g.size, fun i hi hn => (g.block i (Nat.lt_of_lt_of_le hi h.size) (fun e => by
    rcases hq i e.symm with e1 | e1
    · exact hn e1.symm
    · omega)).trans (h.block i hi hn)⟩
theorem grown_wk {a b : World} {o : Option Nat} (h : a.grownBy b none) : a.grownBy b o := ⟨h.os, h.tape, h.output, h.size, fun i hi _ => h.block i hi (by simp)⟩
set_option maxRecDepth 100000 in
set_option maxHeartbeats 8000000 in
theorem gather_by (b : Nat) (at_ : Int) (lo hi : ByteArray) (p : Pa.Pg) (sz : Nat) (W0 : World) (hn : p.keys.length ≤ 1000) (hkl : p.kids.length ≤ p.keys.length + 1)
    (h42 : ∀ V, W0.grownBy V none → Calls Tryz.prog 42 #[.pointer (some ⟨b, 0, none⟩), .int .i64 at_, .agg #[.string lo, .string hi]] V (Pa.DecPost V p 0))
    (h34 : ∀ (i : Nat) (x : Int), p.kids[i]? = some x → ∀ V v l, W0.grownBy V none → V.ownsRow W0.heap.size 3 1 v l.length (Pa.ints l) → l.length + sz ≤ 1000000 → Calls Tryz.prog 34 #[.pointer (some ⟨b, 0, none⟩), v, .int .i64 x, .agg #[.string (loK lo p.keys i), .string (hiK hi p.keys i)]] V (GaP W0.heap.size sz V v l x))
    (W : World) (v : Value) (l : List Int) (hW : W0.grownBy W none) (hv : W.ownsRow W0.heap.size 3 1 v l.length (Pa.ints l)) (hl : l.length + p.kids.length * sz ≤ 1000000) :
    Calls Tryz.prog 34 #[.pointer (some ⟨b, 0, none⟩), v, .int .i64 at_, .agg #[.string lo, .string hi]] W (GaP W0.heap.size (p.kids.length * sz + 1) W v l at_) := by
  have C42 := hid h42
  have C34 := hid h34
  have C41 : Hid (∀ V v i, i ≤ p.keys.length → Pa.PgV V v p → Calls Tryz.prog 41 #[.agg #[.string lo, .string hi], v, .int .i64 (i : Nat)] V fun e w' => e = .returned (.agg #[.string (loK lo p.keys i), .string (hiK hi p.keys i)]) ∧ V.grownBy w' none) := fun V v i hii hv => below_any lo hi p v i V hv hii (by omega)
  have HV := hid hv
  have GW := hid hW
  have HKL := hid hkl
  have HLs := hid hl
  have hvb : Hid (∀ r, v.ownBlock = some r → W0.heap.size ≤ r ∧ r < W.heap.size) := fun r hr => hv.lt r hr
  clear h42 h34 hv hW hkl hl
  obtain ⟨Q0, hQ0⟩ : ∃ Q, Q = GaP W0.heap.size (p.kids.length * sz + 1) W v l at_ := ⟨_, rfl⟩
  rw [← hQ0]
  have HQ := hid (And.intro hQ0 trivial)
  clear hQ0
  go_enter Tryz.func34, Tryz.ntmps34
  go_upto_region 2 with (first
    | (go_at_call 42; refine (C42.out _ (grown_none GW.out (grown_alloc (grown_refl W none) _))).mono ?_; rintro e w2 ⟨u, rfl, o2, g2⟩; have O2 := hid o2; have G2 := hid (grown_none (grown_alloc (grown_refl W none) _) g2); have S2 := hid ((Blk.new W 76 #[.string lo, .string hi]).kept g2 (by simp)); obtain ⟨p1, k1, p2, k2, p3, k3, rfl⟩ := PgO.form o2; clear o2 g2 C42))
  have BX := hid (Blk.new w2 70 #[.bool p.leaf, .slice p1 p.keys.length k1, .slice p2 p.vals.length k2, .slice p3 p.kids.length k3])
  have G3 := hid (grown_alloc (grown_refl w2 none) (.cells #[.bool p.leaf, .slice p1 p.keys.length k1, .slice p2 p.vals.length k2, .slice p3 p.kids.length k3] 70))
  have hs2 := G2.out.size
  have hsl := S2.out.lt
  have O2L := O2
  rw [World.size_alloc] at O2L
  clear O2
  have KC : Hid (∀ i x, p.kids[i]? = some x → ∃ g3, p3 = some ⟨g3, 0, none⟩ ∧ W.heap.size + 1 ≤ g3 ∧ g3 < w2.heap.size ∧ ∀ V : World, V.heap[g3]? = w2.heap[g3]? → V.cell? ⟨g3, i, none⟩ = some (.int .i64 x)) := fun i x hx => by
    obtain ⟨g3, e3, u3, v3, x3⟩ := kid_blk O2L.out (by have := (List.getElem?_eq_some_iff.1 hx).1; omega)
    exact ⟨g3, e3, u3, v3, fun V hV => x3 V hV i x hx⟩
  generalize w2.alloc (.cells #[.bool p.leaf, .slice p1 p.keys.length k1, .slice p2 p.vals.length k2, .slice p3 p.kids.length k3] 70) = w3 at *
  have hb2 := BX.out.lt
  generalize hbx : w2.heap.size = bx at *
  have SS : Hid (∀ V, w3.grownBy V v.ownBlock → (∀ j, W.heap.size ≤ j → j < w3.heap.size → V.heap[j]? = w3.heap[j]?) ∧ V.cell? ⟨bx, 0, none⟩ = some (.bool p.leaf) ∧ V.cell? ⟨bx, 1, none⟩ = some (.slice p1 p.keys.length k1) ∧ V.cell? ⟨bx, 2, none⟩ = some (.slice p2 p.vals.length k2) ∧ V.cell? ⟨bx, 3, none⟩ = some (.slice p3 p.kids.length k3) ∧ V.cell? ⟨W.heap.size, 0, none⟩ = some (.string lo) ∧ V.cell? ⟨W.heap.size, 1, none⟩ = some (.string hi)) := fun V hV => by
    have hk : ∀ j, W.heap.size ≤ j → j < w3.heap.size → V.heap[j]? = w3.heap[j]? := fun j h1 h2 => hV.block j h2 (fun e => by have := (hvb.out j e.symm).2; omega)
    have b4 : Blk V bx 70 _ := (hk bx (by omega) BX.out.lt).trans BX.out
    have d0 := b4.cell 0
    have d1 := b4.cell 1
    have d2 := b4.cell 2
    have d3 := b4.cell 3
    simp at d0 d1 d2 d3
    have s5 : Blk V W.heap.size 76 _ := (hk W.heap.size (Nat.le_refl _) (by omega)).trans ((G3.out.block W.heap.size (by omega) (by simp)).trans S2.out)
    have d4 := s5.cell 0
    have d5 := s5.cell 1
    simp at d4 d5
    exact ⟨hk, d0, d1, d2, d3, d4, d5⟩
  have PV : Hid (∀ V, w3.grownBy V v.ownBlock → Pa.PgV V (.agg #[.bool p.leaf, .slice p1 p.keys.length k1, .slice p2 p.vals.length k2, .slice p3 p.kids.length k3]) p) := fun V hV => by
    have hk := (SS.out V hV).1
    exact pgV_kept O2L.out (V := V) (fun q q1 q2 => (hk q (by omega) (by omega)).trans (G3.out.block q (by omega) (by simp)))
  have KD : Hid (∀ V, w3.grownBy V v.ownBlock → ∀ i x, p.kids[i]? = some x → ∃ g3, p3 = some ⟨g3, 0, none⟩ ∧ V.cell? ⟨g3, i, none⟩ = some (.int .i64 x)) := fun V hV i x hx => by
    obtain ⟨g3, e3, u3, v3, x3⟩ := KC.out i x hx
    exact ⟨g3, e3, x3 V (((SS.out V hV).1 g3 (by omega) (by omega)).trans (G3.out.block g3 (by omega) (by simp)))⟩
  have V3 := hid (row_none (row_none HV.out G2.out) G3.out)
  have GA : Hid (W.grownBy w3 none) := grown_none G2.out G3.out
  obtain ⟨_, c0, c1, c2, c3, _, _⟩ := SS.out w3 ⟨rfl, rfl, rfl, Nat.le_refl _, fun _ _ _ => rfl⟩
  generalize hM : p.kids.length = M at *
  have HM := hid (And.intro hM trivial)
  clear hM G3 G2 BX KC O2L hsl
  go_wp2_with fail
  clear c0 c1 c2 c3
  go_loopg [1, 27] M (fun gk s1 s27 wr => ∃ (i : Nat) (vi : Value) (li : List Int), vi = s1 ∧ s27 = .int .i64 i ∧ i + gk = M ∧ wr.ownsRow W0.heap.size 3 1 vi li.length (Pa.ints li) ∧ li.length ≤ l.length + i * sz ∧ w3.grownBy wr v.ownBlock ∧ (vi.ownBlock = v.ownBlock ∨ ∃ g, vi.ownBlock = some g ∧ w3.heap.size ≤ g))
  case atStart => exact ⟨0, v, l, rfl, rfl, by omega, V3.out, by omega, ⟨rfl, rfl, rfl, Nat.le_refl _, fun _ _ _ => rfl⟩, Or.inl rfl⟩
  case round =>
    obtain ⟨i, vi, li, rfl, rfl, hii, hrow, hlen, hg, hob⟩ := hrel
    have RR := hid hrow
    have LL := hid hlen
    have GR := hid hg
    have OB := hid hob
    obtain ⟨hk, y0, y1, y2, y3, y4, y5⟩ := SS.out wr hg
    have GZ : Hid (W0.grownBy wr none) := grown_ob' (grown_none GW.out GA.out) hg (fun r hr => by have := hvb.out r hr; have := GW.out.size; have := GA.out.size; omega)
    clear hk hrow hlen hg hob
    cases gk with
    | zero =>
      obtain rfl : i = M := by omega
      have A5 : Hid ((wr.alloc (.cells #[.int .i64 at_] 3)).ownsRow W0.heap.size 3 1 (.slice (some ⟨wr.heap.size, 0, none⟩) 1 1) 1 (Pa.ints [at_])) := ⟨rfl, .inr ⟨wr.heap.size, 1, _, rfl, GZ.out.size, heap_alloc_new wr _, Nat.le_refl _, by unfold maxLen; omega, rfl, rfl⟩⟩
      have R5 := hid (RR.out.alloc (.cells #[.int .i64 at_] 3))
      have hz5 : Hid (W0.heap.size ≤ (wr.alloc (.cells #[.int .i64 at_] 3)).heap.size) := by rw [World.size_alloc]; have := GZ.out.size; exact hid (by omega)
      have hz6 : Hid (li.length + 1 ≤ 10000000) := hid (by have := LL.out; have := HLs.out; omega)
      clear y0 y1 y2 y3 y4 y5
      go_wp2_with (first
        | (at_builtin; (refine append_ints W0.heap.size W0.heap.size li [at_] vi _ R5.out A5.out hz6.out hz5.out (.tmp 46) (.tmp 48) rfl rfl rfl rfl ?_; intro v6 w6 h6 hg6 hx6; have H6 := hid h6; have G6 := hid hg6; have X6 := hid hx6; clear h6 hg6 hx6)))
      rw [HQ.out.1]
      have a1 : W.grownBy wr v.ownBlock := grown_by (grown_wk GA.out) GR.out (fun r hr => Or.inl hr)
      have a2 : W.grownBy (wr.alloc (.cells #[.int .i64 at_] 3)) v.ownBlock := grown_by a1 (grown_alloc (grown_refl wr none) _) (fun r hr => by cases hr)
      have s1 := GA.out.size
      have s2 := GR.out.size
      refine ⟨v6, li ++ [at_], rfl, H6.out, by simp, by rw [List.length_append]; have := LL.out; simp; omega, grown_by a2 G6.out (fun r hr => ?_), ?_⟩
      · rcases OB.out with e | ⟨g, e, hg⟩
        · exact Or.inl (e ▸ hr)
        · rw [e] at hr
          injection hr with hr
          exact Or.inr (by omega)
      · rcases X6.out with e1 | e1
        · rcases OB.out with e | ⟨g, e, hg⟩
          · exact Or.inl (e1.trans e)
          · exact Or.inr ⟨g, e1.trans e, by omega⟩
        · exact Or.inr ⟨_, e1, by rw [World.size_alloc]; omega⟩
    | succ gk =>
      obtain ⟨kd, hkd⟩ : ∃ x, p.kids[i]? = some x := ⟨_, List.getElem?_eq_getElem (by have := HM.out.1; omega)⟩
      obtain ⟨g3, rfl, z1⟩ := KD.out wr GR.out i kd hkd
      have i0 : (0 : Int) ≤ (i : Int) := by omega
      have i1 : (i : Int) < M := by omega
      have i2 : (i : Int).toNat = i := by omega
      have wi : IntKind.i64.wrap ((i : Int) + 1) = (i : Int) + 1 := by rw [IntKind.wrap_i64]; have := HKL.out; omega
      have hls : Hid (li.length + sz ≤ 1000000) := hid (by
        have h1 : (i + 1) * sz ≤ M * sz := Nat.mul_le_mul_right _ (by omega)
        rw [Nat.succ_mul] at h1
        have := LL.out
        have := HLs.out
        omega)
      have D41 : Hid (∀ V, wr.grownBy V none → Calls Tryz.prog 41 #[.agg #[.string lo, .string hi], .agg #[.bool p.leaf, .slice p1 p.keys.length k1, .slice p2 p.vals.length k2, .slice (some ⟨g3, 0, none⟩) M k3], .int .i64 i] V fun e w' => e = .returned (.agg #[.string (loK lo p.keys i), .string (hiK hi p.keys i)]) ∧ V.grownBy w' none) := fun V hV => C41.out V _ i (by have := HKL.out; omega) (PV.out V (grown_by GR.out hV (fun r hr => by cases hr)))
      have D34 : Hid (∀ V, wr.grownBy V none → Calls Tryz.prog 34 #[.pointer (some ⟨b, 0, none⟩), vi, .int .i64 kd, .agg #[.string (loK lo p.keys i), .string (hiK hi p.keys i)]] V (GaP W0.heap.size sz V vi li kd)) := fun V hV => C34.out i kd hkd V vi li (grown_none GZ.out hV) (row_none RR.out hV) hls.out
      have SK : Hid (∀ V, w3.grownBy V v.ownBlock → V.cell? ⟨bx, 0, none⟩ = some (.bool p.leaf) ∧ V.cell? ⟨bx, 1, none⟩ = some (.slice p1 p.keys.length k1) ∧ V.cell? ⟨bx, 2, none⟩ = some (.slice p2 p.vals.length k2) ∧ V.cell? ⟨bx, 3, none⟩ = some (.slice (some ⟨g3, 0, none⟩) M k3) ∧ V.cell? ⟨W.heap.size, 0, none⟩ = some (.string lo) ∧ V.cell? ⟨W.heap.size, 1, none⟩ = some (.string hi)) := fun V hV => (SS.out V hV).2
      have FIN : Hid (∀ w6 w7, wr.grownBy w6 none → w6.grownBy w7 vi.ownBlock → w3.grownBy w7 v.ownBlock) := fun w6 w7 h6 h7 => grown_by (grown_by GR.out h6 (fun r hr => by cases hr)) h7 (fun r hr => by
        rcases OB.out with e | ⟨g, e, hg⟩
        · exact Or.inl (e ▸ hr)
        · rw [e] at hr
          injection hr with hr
          exact Or.inr (by omega))
      have hk6 : p.kids[i]? = some kd ∧ True := ⟨hkd, trivial⟩
      clear hkd C41 C34 PV SS KD HQ hk6
      generalize loK lo p.keys i = lo2 at *
      generalize hiK hi p.keys i = hi2 at *
      go_upto_region 8 with fail
      obtain ⟨s0, s1, s2, s3, s4, s5⟩ := SK.out wr GR.out
      go_wp2_with (first
        | (go_at_call 41; refine (D41.out _ (grown_refl _ _)).mono ?_; clear D41; rintro e w6 ⟨rfl, g6⟩; have G6 := hid g6; clear g6)
        | (go_at_call 34; refine (D34.out _ G6.out).mono ?_; clear D34; rintro e w7 ⟨v7, l7, rfl, h7, hl7, hn7, g7, o7⟩; have G7 := hid (FIN.out _ _ G6.out g7); have H7 := hid h7; have N7 := hid hn7; have O7 := hid o7; clear h7 hl7 hn7 o7 g7))
      go_roundg gk
      case measure => omega
      case rel =>
        refine ⟨i + 1, v7, l7, rfl, by simp, by omega, H7.out, ?_, G7.out, ?_⟩
        · have := N7.out
          have := LL.out
          rw [Nat.succ_mul]
          omega
        · rcases O7.out with e1 | ⟨g, e1, hg⟩
          · rcases OB.out with e | ⟨g, e, hg⟩
            · exact Or.inl (e1.trans e)
            · exact Or.inr ⟨g, e1.trans e, hg⟩
          · exact Or.inr ⟨g, e1, by have := GR.out.size; have := G6.out.size; omega⟩

theorem GaP.mono {base s1 s2 : Nat} {W w' : World} {v : Value} {l : List Int} {a : Int} {e : Ending} (h : GaP base s1 W v l a e w') (hs : s1 ≤ s2) : GaP base s2 W v l a e w' := by
  obtain ⟨v', l', h1, h2, h3, h4, h5, h6⟩ := h
  exact ⟨v', l', h1, h2, h3, by omega, h5, h6⟩
def szD : Nat → Nat
  | 0 => 1
  | d + 1 => 9 * szD d + 1
theorem gather_any (base b lb : Nat) (g : Lg) (root : Int) (ok : LgOk g) (hl : g.recs.length ≤ 1000000) (W0 : World) (hS : StM base b lb g root W0) :
    ∀ (d : Nat) (t : Tr d) (p : Pa.Pg) (at_ : Int) (lo hi : Option ByteArray), Bt.Good kl d lo hi t → Bt.AllK KeyOk ValOk d t → 1 ≤ Bt.nk d t → Bt.nk d t ≤ 8 → PageAt g.recs at_ p → Is g.recs d t p → (∀ k, hi = some k → KeyOk k) →
    ∀ W v l, W0.grownBy W none → W.ownsRow W0.heap.size 3 1 v l.length (Pa.ints l) → l.length + szD d ≤ 1000000 → Calls Tryz.prog 34 #[.pointer (some ⟨b, 0, none⟩), v, .int .i64 at_, .agg #[.string (opT lo), .string (opT hi)]] W (GaP W0.heap.size (szD d) W v l at_)
  | 0, tl, p, at_, lo, hi, hG, hA, h1, h8, hP, hI, hh, W, v, l, hW, hv, hln => by
    have hk := is_nk g.recs 0 hI
    have hH := holds_good g.recs 0 hG hA hI hh
    have hp' : p = ⟨true, (show List (ByteArray × ByteArray) from tl).map Prod.fst, (show List (ByteArray × ByteArray) from tl).map Prod.snd, []⟩ := hI
    have e4 : p.kids = [] := by rw [hp']
    have h := gather_by b at_ (opT lo) (opT hi) p 0 W0 (by omega) (by rw [e4]; exact Nat.zero_le _) (fun V hV => read_page base b lb g root at_ _ _ p V (hS.kept hV).tree (hS.kept hV).log ok.asc hl hP hH) (fun i x hx => by rw [e4] at hx; simp at hx) W v l hW hv (by have : szD 0 = 1 := rfl; omega)
    exact h.mono fun e w' hq => hq.mono (by rw [e4]; exact Nat.le_refl _)
  | d + 1, (ks, ts), p, at_, lo, hi, hG, hA, h1, h8, hP, hI, hh, W, v, l, hW, hv, hln => by
    have hk := is_nk g.recs (d + 1) (t := ((ks, ts) : Tr (d + 1))) hI
    have hH := holds_good g.recs (d + 1) (t := ((ks, ts) : Tr (d + 1))) hG hA hI hh
    obtain ⟨is, hp, hil, hkids⟩ := hI
    have hlen := Bt.GL.len (lt := kl) hG
    have e1 : p.keys = ks := by rw [hp]
    have e2 : p.kids = is := by rw [hp]
    have hkl : p.kids.length = p.keys.length + 1 := by rw [e1, e2, hil, hlen]
    have hn8 : ks.length ≤ 8 := h8
    have hk9 : p.kids.length ≤ 9 := by rw [hkl, e1]; omega
    have hsz : szD (d + 1) = 9 * szD d + 1 := rfl
    have hm9 : p.kids.length * szD d ≤ 9 * szD d := Nat.mul_le_mul_right _ hk9
    have h := gather_by b at_ (opT lo) (opT hi) p (szD d) W0 (by rw [e1]; omega) (by omega) (fun V hV => read_page base b lb g root at_ _ _ p V (hS.kept hV).tree (hS.kept hV).log ok.asc hl hP hH) (fun i x hx V v l hV hv hl' => by
      rw [e2] at hx
      have hi1 : i < is.length := (List.getElem?_eq_some_iff.1 hx).1
      have hi2 : i < ts.length := by omega
      obtain ⟨t, ht⟩ : ∃ t, ts[i]? = some t := ⟨_, List.getElem?_eq_getElem hi2⟩
      obtain ⟨_, q, hq1, hq2⟩ := hkids i x t hx ht
      obtain ⟨g1, g2, g3⟩ := gl_at hG i t ht
      have htm : t ∈ ts := List.mem_of_getElem? ht
      have hki : ∀ k, hiI hi ks i = some k → KeyOk k := fun k hk2 => by
        unfold hiI at hk2
        split at hk2
        · exact hA.1 k (List.mem_of_getElem? hk2)
        · exact hh k hk2
      rw [e1, lo_span lo ks i (by omega), hi_span hi ks i]
      exact gather_any base b lb g root ok hl W0 hS d t q x _ _ g1 (hA.2 t htm) (by omega) g3 hq1 hq2 hki V v l hV hv hl') W v l hW hv (by omega)
    exact h.mono fun e w' hq => hq.mono (by omega)
/-- What Pages leaves. -/
def PgsP (w : World) (root : Int) (e : Ending) (w' : World) : Prop := ∃ v l, e = .returned (.tuple #[v, .bool true]) ∧ w'.ownsRow w.heap.size 3 1 v l.length (Pa.ints l) ∧ l.getLast?.getD (-1) = root ∧ l.length ≤ 1000000 ∧ w.grownBy w' none
set_option maxRecDepth 100000 in
set_option maxHeartbeats 1000000 in
theorem pages_none (b lb : Nat) (w : World) (hT : IsTree w b lb (-1)) : Calls Tryz.prog 16 #[.pointer (some ⟨b, 0, none⟩)] w (PgsP w (-1)) := by
  have C26 := hid (none_tree b lb (-1) w hT)
  have c1 := Blk.cell hT 1
  simp at c1
  clear hT
  go_enter Tryz.func16, Tryz.ntmps16
  go_wp2_with (first
    | (go_at_call 26; refine C26.out.mono ?_; rintro e w1 ⟨rfl, hw⟩; replace hw := hw.symm; subst hw))
  refine bodyPost_ret (results_tmp2 rfl _ _ _) rfl ?_
  exact ⟨_, [], rfl, World.ownsRow_nil _ _ _ _, rfl, by decide, grown_refl _ _⟩
set_option maxRecDepth 100000 in
set_option maxHeartbeats 1000000 in
theorem pages_by (b lb : Nat) (root : Int) (w : World) (hT : IsTree w b lb root) (hr : 0 ≤ root) (h34 : ∀ W, w.grownBy W none → Calls Tryz.prog 34 #[.pointer (some ⟨b, 0, none⟩), .slice none 0 0, .int .i64 root, .agg #[.string ⟨#[]⟩, .string ⟨#[]⟩]] W (GaP w.heap.size 1000000 W (.slice none 0 0) [] root)) : Calls Tryz.prog 16 #[.pointer (some ⟨b, 0, none⟩)] w (PgsP w root) := by
  have C26 := hid (none_tree b lb root w hT)
  have C34 := hid h34
  have c1 := Blk.cell hT 1
  simp at c1
  have hr1 : ¬ root = -1 := by omega
  clear hT h34
  go_enter Tryz.func16, Tryz.ntmps16
  go_wp2_with (first
    | (go_at_call 26; refine C26.out.mono ?_; rintro e w1 ⟨rfl, hw⟩; replace hw := hw.symm; subst hw)
    | (go_at_call 34; refine (C34.out _ (by first | exact grown_refl _ _ | exact grown_drew (grown_refl _ _))).mono ?_; rintro e w2 ⟨v2, l2, rfl, h2, hl2, hn2, g2, _⟩; have H2 := hid h2; have L2 := hid hl2; have N2 := hid hn2; have G2 := hid g2; clear h2 hl2 hn2 g2))
  refine bodyPost_ret (results_tmp2 rfl _ _ _) rfl ?_
  exact ⟨v2, l2, rfl, H2.out, by rw [L2.out]; rfl, by simpa using N2.out, G2.out⟩
theorem pages_any {n : Nat} {r : Rt} {g : Lg} {root : Int} (h : StG n r g root) (hn : n ≤ 300) (base b lb : Nat) (w : World) (hM : StM base b lb g root w) : Calls Tryz.prog 16 #[.pointer (some ⟨b, 0, none⟩)] w (PgsP w root) := by
  have hd := h.deep hn
  have hc := h.cnt
  match r, h, hd with
  | none, h, _ =>
    have hr : root = -1 := h.laid
    subst hr
    exact pages_none b lb w hM.tree
  | some ⟨d, t⟩, h, hd =>
    obtain ⟨hD1, p, hD2, hD3⟩ := h.laid
    have hR := h.good
    have hd4 : d ≤ 4 := hd
    have hz : szD d ≤ 100000 := by
      have h5 : ∀ d, d ≤ 4 → szD d ≤ 100000 := by decide
      exact h5 d hd4
    refine pages_by b lb root w hM.tree hD1.1 fun W hW => ?_
    refine (gather_any base b lb g root h.ok (by omega) w hM d t p root none none hR.1 h.all hR.2.1 hR.2.2 hD2 hD3 (fun y hy => by cases hy) W (.slice none 0 0) [] hW (World.ownsRow_nil _ _ _ _) (by simp; omega)).mono fun e w' hq => hq.mono (by omega)
end Go.Proofs.YtbhmmcelndmijaaGreat
/-
  BtreeRoots: the law's walk.
-/
namespace Go.Proofs.YtbhmmcelndmijaaGreat
open Go.RowKit Go.Maps
/-- What an earlier root has stays, whatever is done since. -/
theorem StG.old {n : Nat} {rO r2 : Rt} {g g2 : Lg} {rootO a2 : Int} (h : StG n rO g rootO) (s : StG (n + 1) r2 g2 a2) (e : Ext g.recs g2.recs) : StG (n + 1) rO g2 rootO :=
  ⟨s.ok, h.good, h.all, h.laid.ext e, s.cnt, s.siz, by have := h.few; omega⟩
theorem newR_any {n : Nat} {r : Rt} {g : Lg} {root : Int} (h : StG n r g root) (hn : n ≤ 300) (base lb : Nat) (w : World) (hL : IsLog w base lb g) : Calls Tryz.prog 15 #[.pointer (some ⟨lb, 0, none⟩), .int .i64 root] w (NewPost w lb root) := by
  have hc := h.cnt
  match r, h with
  | none, h =>
    have hr : root = -1 := h.laid
    subst hr
    exact new_none lb w
  | some ⟨d, t⟩, h =>
    obtain ⟨hD1, p, hD2, hD3⟩ := h.laid
    have hR := h.good
    exact new_some base lb g root p w hL h.ok.asc (by omega) hD1.1 hD2 (holds_good _ d hR.1 h.all hD3 (fun y hy => by cases hy))
def lastN (l : List Int) (j : Nat) : Int := (l.take j).getLast?.getD (-1)
theorem lastN_succ (l : List Int) (j : Nat) (x : Int) (h : l[j]? = some x) : lastN l (j + 1) = x := by
  unfold lastN
  rw [List.take_add_one, h]
  simp
set_option maxRecDepth 100000 in
set_option maxHeartbeats 40000000 in
theorem roots_law (pa : Option Addr) (n cap g o : Nat) (A : Nat → Ac) (at_ : Int) (w : World) (hp : 0 < n → pa = some ⟨g, o, none⟩) (hA : ∀ j, j < n → AcAt w g (o + j * 3) (A j)) (hn : n ≤ 9223372036854775807) : Calls Tryz.prog 5 #[.slice pa n cap, .int .i64 at_] w fun e w' => e = .returned (.bool true) ∧ w.grownBy w' none := by
  have C7 := hid (fresh_any w)
  have C8 : Hid (∀ W, Calls Tryz.prog 8 #[] W fun e w' => e = .returned (.bool true) ∧ W.grownBy w' none) := fun W => awake_any W
  have HP := hid hp
  have HA := hid hA
  clear hp hA
  obtain ⟨N, hN⟩ : ∃ N : Nat, N = min n 200 := ⟨_, rfl⟩
  have hNn : N ≤ n := by omega
  have hN2 : N ≤ 200 := by omega
  have hmin : min (n : Int) 200 = (N : Int) := by omega
  clear hN
  go_enter Tryz.func5, Tryz.ntmps5
  go_wp2_with (first
    | (go_at_call 7; refine C7.out.mono ?_; rintro e w1 ⟨b, lb, d, rfl, hb, t1, l1, g1⟩; have M1 : Hid (StM w.heap.size b lb (newL d) (-1) w1) := ⟨t1, l1⟩; have G1 := hid g1; have HB := hid hb; clear t1 l1 g1 hb C7)
    | (go_at_call 8; refine (C8.out _).mono ?_; rintro e w2 ⟨rfl, g2⟩; have M2 := hid (M1.out.kept g2); have G2 := hid (grown_none G1.out g2); clear g2 C8))
  have S0 := hid (st_new d)
  go_loopg [8, 9, 10, 12, 13] N (fun gk s8 s9 s10 s12 s13 wr => ∃ (i : Nat) (r rO : Rt) (gl : Lg) (root rootO : Int) (m8 m9 : Value), m8 = s8 ∧ m9 = s9 ∧ s10 = .int .i64 rootO ∧ s12 = .int .i64 i ∧ i + gk = N ∧ StG i r gl root ∧ StG i rO gl rootO ∧ StM w.heap.size b lb gl root wr ∧ PrB w.heap.size wr m8 (Bt.flatR r) ∧ PrB w.heap.size wr m9 (Bt.flatR rO) ∧ w.grownBy wr none)
  case atStart =>
    have q2 := prB_none (base := w.heap.size) (w2.alloc (.cells #[] 62)) (by rw [World.size_alloc]; have := G2.out.size; omega)
    rw [World.size_alloc] at q2
    exact ⟨0, none, none, newL d, -1, -1, _, _, rfl, rfl, rfl, rfl, by omega, S0.out, S0.out, M2.out.kept (grown_alloc (grown_alloc (grown_refl _ _) _) _), (prB_none w2 G2.out.size).kept (grown_alloc (grown_refl _ _) _), q2, grown_alloc (grown_alloc G2.out _) _⟩
  case round =>
    obtain ⟨i, r, rO, gl, root, rootO, m8, m9, rfl, rfl, rfl, rfl, hi, hs, hsO, hm, hpr, hprO, hg⟩ := hrel
    have S3 := hid hs
    have SO := hid hsO
    have M3 := hid hm
    have G3 := hid hg
    have P3 := hid hpr
    have PO := hid hprO
    clear hs hsO hm hg hpr hprO M1 M2 G1 G2 S0
    have j0 : (0 : Int) ≤ (i : Int) := by omega
    cases gk with
    | zero =>
      obtain rfl : i = N := by omega
      have C15 : Hid (∀ W, wr.grownBy W none → Calls Tryz.prog 15 #[.pointer (some ⟨lb, 0, none⟩), .int .i64 rootO] W (NewPost W lb rootO)) := fun W hW => newR_any SO.out (by omega) w.heap.size lb W (M3.out.kept hW).log
      have C10O : Hid (∀ b2 W, wr.grownBy W none → IsTree W b2 lb rootO → Calls Tryz.prog 10 #[.pointer (some ⟨b2, 0, none⟩), m9, .string ⟨#[]⟩] W fun e w' => e = .returned (.bool true) ∧ W.grownBy w' none) := fun b2 W hW hT => has_any SO.out (by omega) w.heap.size b2 lb m9 ⟨#[]⟩ W ⟨hT, (M3.out.kept hW).log⟩ (PO.out.kept hW).prv
      have C10 : Hid (∀ W, wr.grownBy W none → Calls Tryz.prog 10 #[.pointer (some ⟨b, 0, none⟩), m8, .string ⟨#[]⟩] W fun e w' => e = .returned (.bool true) ∧ W.grownBy w' none) := fun W hW => has_any S3.out (by omega) w.heap.size b lb m8 ⟨#[]⟩ W (M3.out.kept hW) (P3.out.kept hW).prv
      have C11O : Hid (∀ b2 W, IsTree W b2 lb rootO → Calls Tryz.prog 11 #[.pointer (some ⟨b2, 0, none⟩)] W fun e w' => e = .returned (.int .i64 rootO) ∧ W.grownBy w' none) := fun b2 W hT => root_any b2 lb rootO W hT
      have C11 : Hid (∀ W, wr.grownBy W none → Calls Tryz.prog 11 #[.pointer (some ⟨b, 0, none⟩)] W fun e w' => e = .returned (.int .i64 root) ∧ W.grownBy w' none) := fun W hW => root_any b lb root W (M3.out.kept hW).tree
      have C16 : Hid (∀ W, wr.grownBy W none → Calls Tryz.prog 16 #[.pointer (some ⟨b, 0, none⟩)] W (PgsP W root)) := fun W hW => pages_any S3.out (by omega) w.heap.size b lb W (M3.out.kept hW)
      clear S3 SO M3 P3 PO HA HP
      go_upto_region 20 with (first
        | (go_at_call 15; refine (C15.out _ (grown_refl _ _)).mono ?_; rintro e w4 ⟨b2, rfl, hb2, t4, g4⟩; have T4 := hid t4; have G4 := hid g4; clear hb2 t4 g4 C15)
        | (go_at_call 10; refine (C10O.out b2 w4 G4.out T4.out).mono ?_; rintro e w5 ⟨rfl, g5⟩; have T5 := hid (T4.out.kept g5); have G5 := hid (grown_none G4.out g5); clear g5 C10O)
        | (go_at_call 11; refine (C11O.out b2 w5 T5.out).mono ?_; rintro e w6 ⟨rfl, g6⟩; have G6 := hid (grown_none G5.out g6); clear g6 C11O)
        | (go_at_call 16; refine (C16.out w6 G6.out).mono ?_; rintro e w7 ⟨v7, l7, rfl, h7, hl7, hn7, g7⟩; have H7 := hid h7; have L7 := hid (And.intro hl7 trivial); have N7 := hid hn7; have G7 := hid (grown_none G6.out g7); clear h7 hl7 hn7 g7 C16))
      obtain ⟨p7, c7, rfl⟩ := Pa.owns_slice H7.out
      have HC : Hid (∀ j x, l7[j]? = some x → ∃ g7, p7 = some ⟨g7, 0, none⟩ ∧ w7.cell? ⟨g7, j, none⟩ = some (.int .i64 x)) := fun j x hx => by
        have hj : j < l7.length := (List.getElem?_eq_some_iff.1 hx).1
        rcases H7.out.2 with ⟨_, e⟩ | ⟨g7, cap7, cur, e, hb, hh, _⟩
        · omega
        · injection e with e1 e2 e3
          subst e1
          have hc := H7.out.cellAt j (by omega)
          exact ⟨g7, rfl, by rw [hc]; unfold Pa.ints; rw [List.getElem?_map, hx]; rfl⟩
      generalize hLn : l7.length = Ln at *
      have HL := hid (And.intro hLn trivial)
      clear hLn
      go_wp2_with fail
      go_loopg [18, 19] Ln (fun gk s18 s19 wr => wr = w7 ∧ ∃ j : Nat, s19 = .int .i64 j ∧ j + gk = Ln ∧ s18 = .int .i64 (lastN l7 j))
      case atStart => exact ⟨rfl, 0, rfl, by omega, rfl⟩
      case round =>
        obtain ⟨hw, j, rfl, hj, rfl⟩ := hrel
        replace hw := hw.symm
        subst hw
        have k0 : (0 : Int) ≤ (j : Int) := by omega
        cases gk with
        | zero =>
          obtain rfl : j = Ln := by omega
          have hlast : lastN l7 j = root := by unfold lastN; rw [List.take_of_length_le (by have := HL.out.1; omega)]; exact L7.out.1
          rw [hlast]
          clear hlast
          go_wp2_with (first
            | (go_at_call 11; refine (C11.out _ G7.out).mono ?_; rintro e w8 ⟨rfl, g8⟩; have G8 := hid (grown_none G7.out g8); clear g8 C11)
            | (go_at_call 10; refine (C10.out w8 G8.out).mono ?_; rintro e w9 ⟨rfl, g9⟩; have G9 := hid (grown_none G8.out g9); clear g9 C10))
          go_ret
          exact ⟨rfl, grown_none G3.out G9.out⟩
        | succ gk =>
          obtain ⟨x, hx⟩ : ∃ x, l7[j]? = some x := ⟨_, List.getElem?_eq_getElem (by have := HL.out.1; omega)⟩
          obtain ⟨g7, rfl, hc⟩ := HC.out j x hx
          have hls := hid (And.intro (lastN_succ l7 j x hx) trivial)
          have k1 : (j : Int) < Ln := by omega
          have k2 : (j : Int).toNat = j := by omega
          have wi : IntKind.i64.wrap ((j : Int) + 1) = (j : Int) + 1 := by rw [IntKind.wrap_i64]; have := N7.out; omega
          clear hx HC
          go_wp2_with fail
          go_roundg gk
          case measure => omega
          case rel => exact ⟨rfl, j + 1, by simp, by omega, by rw [hls.out.1]⟩
    | succ gk =>
      have j1 : (i : Int) < N := by omega
      have j3 : (i : Int).toNat = i := by omega
      have j4 : (i : Int) < n := by omega
      have jz : ¬ ((N : Int) = 0) := by omega
      obtain rfl := HP.out (by omega)
      have wi : IntKind.i64.wrap ((i : Int) + 1) = (i : Int) + 1 := by rw [IntKind.wrap_i64]; omega
      have ax := HA.out i (by omega)
      generalize A i = x at *
      obtain ⟨kd, key, val⟩ := x
      obtain ⟨a0, a1, a2'⟩ := ax.kept G3.out
      clear ax HA HP
      simp only [] at a0 a1 a2'
      have C9 := hid (one_any S3.out (by omega) w.heap.size w.heap.size b lb m8 kd key val wr M3.out P3.out G3.out.size)
      have MM := hid M3.out
      clear S3 M3 P3
      go_upto_region 14 with (first
        | (go_at_call 9; refine C9.out.mono ?_; rintro e w5 ⟨r2, g2, a2, v5, rfl, s5, x5, m5, p5, tt⟩; have S5 := hid s5; have M5 := hid m5; have P5 := hid p5; have O5 := hid (StG.old SO.out s5 x5); have Q5 := hid (PO.out.tt MM.out tt); have G5 := hid (TT.grown G3.out tt HB.out); clear s5 m5 p5 tt x5))
      clear C9 a0 a1 a2' SO PO MM
      have hr1 : IntKind.i64.wrap (at_.tmod N + N) = at_.tmod N + N := by
        have h1 := Int.tmod_lt_of_pos at_ (show (0 : Int) < N by omega)
        have h2 : -(N : Int) < at_.tmod N := Int.lt_tmod_of_pos at_ (by omega)
        rw [IntKind.wrap_i64]
        omega
      have C11 : Hid (Calls Tryz.prog 11 #[.pointer (some ⟨b, 0, none⟩)] w5 fun e w' => e = .returned (.int .i64 a2) ∧ w5.grownBy w' none) := root_any b lb a2 w5 M5.out.tree
      obtain ⟨T, hT⟩ : ∃ T, (at_.tmod N + N).tmod N = T := ⟨_, rfl⟩
      by_cases hc : (i : Int) = T
      · have hcT : ((i : Int) == T) = true := by simpa using hc
        clear hc
        go_wp2_with (first
          | (go_at_call 11; refine C11.out.mono ?_; rintro e w6 ⟨rfl, g6⟩; have G6 := hid g6; clear g6 C11))
        go_roundg gk
        case measure => omega
        case rel => exact ⟨i + 1, r2, r2, g2, a2, a2, v5, v5, rfl, rfl, rfl, by simp, by omega, S5.out, S5.out, M5.out.kept G6.out, P5.out.kept G6.out, P5.out.kept G6.out, grown_none G5.out G6.out⟩
      · have hcT : ((i : Int) == T) = false := by simpa using hc
        clear hc C11
        go_wp2_with fail
        go_roundg gk
        case measure => omega
        case rel => exact ⟨i + 1, r2, rO, g2, a2, rootO, v5, m9, rfl, rfl, rfl, by simp, by omega, S5.out, O5.out, M5.out, P5.out, Q5.out, G5.out⟩
end Go.Proofs.YtbhmmcelndmijaaGreat
namespace Go.Proofs.YtbhmmcelndmijaaGreat
open Go.ChangeMaps Go.ChangeShapes Go.WideShapes Go.ChangeAt Go.WideMaps Go.WideElems Go.RowKit
theorem btreeRoots_own : ownKnob Tryz.prog.godebug = none := by kernel_rfl
set_option maxRecDepth 100000 in
theorem btreeRoots_lifted (os : Os) (started : os.Started) (H : Type) (enc : TypeId × Value → H) :
    ReturnsInHanded {} Tryz.checked os 5 .any (Rows.btreeRootsSpec.pre6 enc Tryz.prog Tryz.f5 Rows.btreeRootsRow.domain false) (Rows.btreeRootsSpec.post enc Tryz.prog Tryz.f5 false true false false) := by
  refine returnsInHanded_of_change (C := Tryz.checked) btreeRoots_own started (by kernel_rfl) Tryz.func5
    (ChangeSpec.witness6 (enc := enc) (C := Tryz.checked) false ⟨#[], #[.slice none 0 0, .int .i64 0], []⟩ 8 (by kernel_rfl) (by kernel_rfl) (by kernel_rfl) (by kernel_rfl)) ?_
  intro W base args ds gs before hval0 hW hcnd _
  have hval : ∀ (j : Nat) t v, Tryz.f5.params[j]? = some t → args[j]? = some v → Value.okWide Tryz.prog W .any base t v := hval0
  have hW' := hW
  obtain ⟨p, q, hA0, hV, rfl, hfz, hnd⟩ := hW
  have hA : DataW.TrodAll enc Tryz.prog W 0 (fun _ => true) true Tryz.f5.params.toList args.toList ds p := hA0
  rw [Tryz.params5] at hA hval
  obtain ⟨v0, v1, d0, d1, p0, p1, rfl, rfl, rfl, h0, h1⟩ := trodAll_two hA
  obtain ⟨rfl, rfl⟩ := trodVars_none hV
  obtain ⟨pa, n, cap, rfl⟩ := okWide_slice Tryz.underlying22 (hval 0 22 v0 rfl rfl)
  obtain ⟨fr, rfl, rfl, rfl, _⟩ := open_int Tryz.underlying3 (hval 1 3 v1 rfl rfl) h1
  obtain ⟨g, o, A, x1, x2, x3⟩ := open_acs h0
  clear hA0 hval0 hval
  simp only [List.append_nil] at hW'
  refine (roots_law pa n cap g o A fr W x1 x2 x3).mono fun e W' ⟨he, hw⟩ => ?_
  subst he
  exact ⟨_, rfl, post_true (b := 4) hW' rfl (by kernel_rfl) (by kernel_rfl) (by kernel_rfl) Tryz.underlying4 rfl hw⟩
theorem btreeRoots_holds : Rows.BtreeRootsSaid :=
  OpenClaim.holds_of_wide 5 Tryz.f5 rfl rfl rfl rfl rfl rfl rfl ⟨rfl, rfl, rfl, rfl, rfl⟩ rfl rfl rfl rfl rfl (by kernel_rfl) Tryz.func5 (by kernel_rfl)
    (of_decide_eq_true (by kernel_rfl)) (by unfold Func.isWrapper; first | (rw [if_pos (by decide +kernel)]; kernel_rfl) | (rw [if_neg (by decide +kernel)]; exact ⟨rfl, rfl⟩))
    (fun os started H enc _ => btreeRoots_lifted os started H enc)
#print axioms btreeRoots_holds
end Go.Proofs.YtbhmmcelndmijaaGreat
