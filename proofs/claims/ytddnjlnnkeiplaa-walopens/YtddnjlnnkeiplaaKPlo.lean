/-
  WalPlays: what holds at the loop's head. The last step of a law's row: where the walk answers true and nothing below the heap's old size has turned, what the row says of the call holds. Nothing of the program is named here. WalPlays: its argument opened: a list of acts, each with a list of texts.
-/
import Derived.Test.YtddnjlnnkeiplaaKXPlm
import Derived.Test.YtddnjlnnkeiplaaMcom
import Derived.Deep.DeepCutAuto
import Derived.Test.YtddnjlnnkeiplaaKFs
import Derived.ProofKit
import Derived.Carry
import Derived.OpenShut
import Derived.Stop.Joined
import Derived.Test.YtddnjlnnkeiplaaRows
import Derived.Deep.Strs
import Derived.Deep.Slices
import Derived.Deep.MidRow
import Derived.SliceStrings
namespace Go.Proofs.Ytddnjlnnkeiplaa
open Go.RowKit Go.Maps
/-- Something that is done, as it lies in memory. -/
structure Ac where
  kind : Int
  n : Int
  s : ByteArray
  lp : Option Addr
  ln : Nat
  lc : Nat
  fat : Int
  keep : Int
  torn : Int
  lb : Nat
  lo : Nat
  ls : Nat → ByteArray
structure AcAt (w : World) (g o : Nat) (a : Ac) : Prop where
  c0 : w.cell? ⟨g, o, none⟩ = some (.int .i64 a.kind)
  c1 : w.cell? ⟨g, o + 1, none⟩ = some (.int .i64 a.n)
  c2 : w.cell? ⟨g, o + 2, none⟩ = some (.string a.s)
  c3 : w.cell? ⟨g, o + 3, none⟩ = some (.slice a.lp a.ln a.lc)
  c4 : w.cell? ⟨g, o + 4, none⟩ = some (.int .i64 a.fat)
  c5 : w.cell? ⟨g, o + 5, none⟩ = some (.int .i64 a.keep)
  c6 : w.cell? ⟨g, o + 6, none⟩ = some (.int .i64 a.torn)
  lp : 0 < a.ln → a.lp = some ⟨a.lb, a.lo, none⟩
  lcell : ∀ j, j < a.ln → w.cell? ⟨a.lb, a.lo + j, none⟩ = some (.string (a.ls j))
  len : a.ln ≤ 9223372036854775807
  torn : a.torn ≤ 9223372036854775807
theorem AcAt.kept {w w' : World} {g o : Nat} {a : Ac} (h : AcAt w g o a) (hg : w.grownBy w' none) : AcAt w' g o a :=
  ⟨cell_kept h.c0 hg (fun _ e => by cases e), cell_kept h.c1 hg (fun _ e => by cases e), cell_kept h.c2 hg (fun _ e => by cases e), cell_kept h.c3 hg (fun _ e => by cases e), cell_kept h.c4 hg (fun _ e => by cases e), cell_kept h.c5 hg (fun _ e => by cases e), cell_kept h.c6 hg (fun _ e => by cases e), h.lp, fun j hj => cell_kept (h.lcell j hj) hg (fun _ e => by cases e), h.len, h.torn⟩
/-- What holds at the loop's head. -/
structure PlI (w : World) (M k b : Nat) (wr : World) (fr : List Fr) (ts : List ByteArray) (F : Option ByteArray) (c mk : Nat) (sv wv : Value) (Tl : List (Nat × ByteArray)) : Prop where
  log : IsLog wr w.heap.size b (logP w.heap.size fr ts)
  disk : IsDisk wr w.heap.size w.heap.size (Dn F c)
  file : F.getD ⟨#[]⟩ = bytL fr
  shut : Shut fr
  fsz : ∀ x ∈ fr, x.2.size ≤ 300
  tsz : ∀ t ∈ ts, t.size ≤ 300
  cnt : fr.length + ts.length ≤ k + 7
  chg : c ≤ 2 * k
  mks : mk ≤ k
  mrk : (frG w.heap.size fr).marked = decide (0 < mk)
  blk : Blk wr M 32 (mdlV sv wv (bytL fr).size (bytL (ts.map recF)).size (frG w.heap.size fr).root mk)
  sure : Recs wr 0 sv (frG w.heap.size fr).recs
  wait : Recs wr 0 wv Tl
  all : (logP w.heap.size fr ts).recs = (frG w.heap.size fr).recs ++ Tl
  mem : w.heap.size < M
  grown : w.grownBy wr none
theorem bytL_le : ∀ l : List Fr, (∀ x ∈ l, x.2.size ≤ 300) → (bytL l).size ≤ l.length * 309
  | [], _ => Nat.le_refl _
  | x :: r, h => by
    have h1 := bytL_le r (fun y hy => h y (List.mem_cons_of_mem _ hy))
    have h2 := h x List.mem_cons_self
    show (Wi.frmS (frT x) ++ bytL r).size ≤ (r.length + 1) * 309
    rw [ByteArray.size_append, one_len]
    omega
theorem PlI.recsz {w wr : World} {M k b c mk : Nat} {fr : List Fr} {ts : List ByteArray} {F : Option ByteArray} {sv wv : Value} {Tl : List (Nat × ByteArray)} (h : PlI w M k b wr fr ts F c mk sv wv Tl) : (logP w.heap.size fr ts).recs.length ≤ k + 7 := by
  have h1 := (fok_all w.heap.size (fr ++ ts.map recF)).few
  rw [List.length_append, List.length_map] at h1
  have h2 := h.cnt
  show (frG w.heap.size (fr ++ ts.map recF)).recs.length ≤ k + 7
  omega
theorem PlI.bytes {w wr : World} {M k b c mk : Nat} {fr : List Fr} {ts : List ByteArray} {F : Option ByteArray} {sv wv : Value} {Tl : List (Nat × ByteArray)} (h : PlI w M k b wr fr ts F c mk sv wv Tl) : (bytL (fr ++ ts.map recF)).size ≤ (k + 7) * 309 ∧ (bytL fr).size + (bytL (ts.map recF)).size = (bytL (fr ++ ts.map recF)).size := by
  have h1 := bytL_le (fr ++ ts.map recF) (fun x hx => by
    rcases List.mem_append.1 hx with hx | hx
    · exact h.fsz x hx
    · obtain ⟨t, ht, rfl⟩ := List.mem_map.1 hx
      exact h.tsz t ht)
  rw [List.length_append, List.length_map] at h1
  have h2 := Nat.mul_le_mul_right 309 h.cnt
  refine ⟨Nat.le_trans h1 h2, ?_⟩
  rw [bytL_app, ByteArray.size_append]
theorem PlI.kept {w wr wr' : World} {M k b c mk : Nat} {fr : List Fr} {ts : List ByteArray} {F : Option ByteArray} {sv wv : Value} {Tl : List (Nat × ByteArray)} (h : PlI w M k b wr fr ts F c mk sv wv Tl) (hg : wr.grownBy wr' none) : PlI w M k b wr' fr ts F c mk sv wv Tl :=
  { h with
    log := h.log.kept hg
    disk := h.disk.kept hg
    blk := h.blk.kept hg (by simp)
    sure := h.sure.none hg
    wait := h.wait.none hg
    grown := grown_none h.grown hg }
theorem PlI.up {w wr : World} {M k k' b c mk : Nat} {fr : List Fr} {ts : List ByteArray} {F : Option ByteArray} {sv wv : Value} {Tl : List (Nat × ByteArray)} (h : PlI w M k b wr fr ts F c mk sv wv Tl) (hk : k ≤ k') : PlI w M k' b wr fr ts F c mk sv wv Tl :=
  { h with
    cnt := by have := h.cnt; omega
    chg := by have := h.chg; omega
    mks := by have := h.mks; omega }
/-- The log has just what the model has. -/
theorem PlI.same {w wr : World} {M k b c mk : Nat} {fr : List Fr} {ts : List ByteArray} {F : Option ByteArray} {sv wv : Value} {Tl : List (Nat × ByteArray)} (h : PlI w M k b wr fr ts F c mk sv wv Tl) (hk : k ≤ 60) :
    Calls Try.prog 24 #[.pointer (some ⟨b, 0, none⟩), .agg (mdlV sv wv (bytL fr).size (bytL (ts.map recF)).size (frG w.heap.size fr).root mk)] wr fun e w' => e = .returned (.bool true) ∧ wr.grownBy w' none := by
  have hz := h.recsz
  have ha := logP_asc w.heap.size fr ts
  have hl := congrArg List.length h.all
  rw [List.length_append] at hl
  exact same_any w.heap.size b 0 (logP w.heap.size fr ts) (frG w.heap.size fr).recs Tl sv wv mk wr h.log h.sure h.wait ha (by omega) (fun r hr => by
    rw [← h.all] at hr
    exact atR_mem ha hr) h.mrk (by omega)
theorem PlI.start {w w3 : World} {b : Nat} (hl : IsLog w3 w.heap.size b (logP w.heap.size [] [])) (hd : IsDisk w3 w.heap.size w.heap.size (Dn none 0)) (hg : w.grownBy w3 none) (hw : w.heap.size < w3.heap.size) :
    PlI w w3.heap.size 0 b (w3.alloc (.cells #[.slice none 0 0, .slice none 0 0, .int .i64 0, .int .i64 0, .string ⟨#[]⟩, .int .i64 0] 32)) [] [] none 0 0 (.slice none 0 0) (.slice none 0 0) [] where
  log := hl.kept (grown_alloc (grown_refl _ _) _)
  disk := hd.kept (grown_alloc (grown_refl _ _) _)
  file := rfl
  shut := Or.inl rfl
  fsz := fun x hx => by cases hx
  tsz := fun x hx => by cases hx
  cnt := by decide
  chg := Nat.le_refl _
  mks := Nat.le_refl _
  mrk := rfl
  blk := Blk.new w3 32 _
  sure := recs_nil _ _
  wait := recs_nil _ _
  all := rfl
  mem := hw
  grown := grown_alloc hg _
/-- Behind a call of the log's or the disk's, the log and the disk told anew. -/
theorem PlI.over {w wr wr' : World} {M k b c mk : Nat} {fr : List Fr} {ts : List ByteArray} {F : Option ByteArray} {sv wv : Value} {Tl : List (Nat × ByteArray)} (h : PlI w M k b wr fr ts F c mk sv wv Tl) (hT : Low w.heap.size wr wr') :
    Blk wr' M 32 (mdlV sv wv (bytL fr).size (bytL (ts.map recF)).size (frG w.heap.size fr).root mk) ∧ Recs wr' 0 sv (frG w.heap.size fr).recs ∧ Recs wr' 0 wv Tl ∧ w.grownBy wr' none :=
  ⟨low_blk hT h.blk ⟨by decide, by decide, by decide, by decide, by decide⟩, h.sure.low hT, h.wait.low hT, Low.grown h.grown hT⟩
/-- A store into the law's own cells leaves a log and a disk. -/
theorem IsLog.law {w w' : World} {base b M : Nat} {g : Lg} {cs : Array Value} (h : IsLog w base b g) (hM : Blk w M 32 cs) (hg : w.grownBy w' (some M)) : IsLog w' base b g := by
  obtain ⟨h0, vr, vw, hb, hr, hw⟩ := h
  exact ⟨h0, vr, vw, hb.kept hg (fun e => far_ne' hb hM (by decide) (Option.some.inj e)), rowG_kept hr hM (by decide) hg, rowG_kept hw hM (by decide) hg⟩
theorem IsDisk.law {w w' : World} {base b M : Nat} {k : Dk} {cs : Array Value} (h : IsDisk w base b k) (hM : Blk w M 32 cs) (hg : w.grownBy w' (some M)) : IsDisk w' base b k := by
  obtain ⟨h0, vn, vs, vl, hB, hn, hs, hne, hl⟩ := h
  have keepV : ∀ v l, MapV w base v l → MapV w' base v l := fun v l hv => by
    rcases hv with hv | ⟨q, rfl, hq, ho⟩
    · exact Or.inl hv
    · exact Or.inr ⟨q, rfl, hq, ho.kept hg (fun e => hM.ne_map ho (Option.some.inj e).symm)⟩
  exact ⟨h0, vn, vs, vl, hB.kept hg (fun e => far_ne' hB hM (by decide) (Option.some.inj e)), keepV _ _ hn, keepV _ _ hs, hne, rowG_kept hl hM (by decide) hg⟩
end Go.Proofs.Ytddnjlnnkeiplaa
namespace Go.Proofs.Ytddnjlnnkeiplaa
open Go.ChangeShapes Go.WideShapes Go.ChangeAt Go.WideMaps Go.WideElems Go.RowKit
theorem trodAll_below {H : Type} {enc : TypeId × Value → H} {P : Program} (hl : laidOutB P = true) {W W' : World} (hb : Below W.heap.size W W') :
    ∀ (ts : List TypeId) (vs : List Value) (ds : List (DataW H)) (ps : List MemPlace), (ts.all fun t => P.readableRec t && decide (t < P.types.size)) = true → (∀ x ∈ ps, x.block < W.heap.size) →
      DataW.TrodAll enc P W 0 (fun _ => true) true ts vs ds ps → DataW.TrodAll enc P W' 0 (fun b => decide (b < W.heap.size)) true ts vs ds ps
  | [], [], [], _, _, _, h => h
  | t :: ts, v :: vs, d :: ds, ps, hr, hlt, h => by
    obtain ⟨p, q, h1, h2, rfl⟩ := h
    simp only [List.all_cons, Bool.and_eq_true, decide_eq_true_eq] at hr
    exact ⟨p, q, Below.trod hl hr.1.1 hr.1.2 h1 hb (fun x hx => hlt x (by simp [hx])), trodAll_below hl hb ts vs ds q hr.2 (fun x hx => hlt x (by simp [hx])) h2, rfl⟩
  | [], [], _ :: _, _, _, _, h => h.elim
  | [], _ :: _, _, _, _, _, h => h.elim
  | _ :: _, [], _, _, _, _, h => h.elim
  | _ :: _, _ :: _, [], _, _, _, h => h.elim
/-- True, and the arguments as they were. -/
theorem post_true {H : Type} {enc : TypeId × Value → H} {P : Program} {f : Func} {s : ChangeSpec} {b : TypeId} {W W' : World} {args : Array Value} {ds : List (DataW H)} {before : List MemPlace}
    (hW : DataW.Whole enc P f.params.toList s.vars false W args.toList ds [] before) (hv : s.vars = []) (hl : laidOutB P = true) (hr : (f.params.toList.all fun t => P.readableRec t && decide (t < P.types.size)) = true)
    (hres : f.resultTypes = #[b]) (hb : P.underlying b = some .bool) (hfn : s.fn H (ds ++ []) = { results := [.lit (.bool true)], args := ds }) (hg : W.grownBy W' none) :
    s.post enc P f false true false false W args (.bool true) W' := by
  have hbel := grown_below hg
  have hlt := fun p hp => hW.lt p hp
  have hW2 := hW
  obtain ⟨p, q, hA, hV, rfl, hfz, hnd⟩ := hW2
  rw [hv] at hV
  have hq : q = [] := hV
  subst hq
  rw [List.append_nil] at hlt
  refine ⟨ds, [], _, [], p, [], hW, ?_, ?_, ?_, hbel.frame _, fun h => by cases h⟩
  · rw [hfn, hres]
    exact trodAll_mk1 (shut_bool hb _)
  · rw [hfn]
    exact trodAll_below hl hbel _ _ _ _ hr hlt hA
  · rw [hfn, hv]
    rfl
end Go.Proofs.Ytddnjlnnkeiplaa
namespace Go.Proofs.Ytddnjlnnkeiplaa
open Go.ChangeMaps Go.ChangeShapes Go.WideShapes Go.ChangeAt Go.WideMaps Go.WideElems Go.RowKit Go.Deep
theorem cz3 : Try.prog.cellsOf 3 = 1 := by kernel_rfl
theorem cz9 : Try.prog.cellsOf 9 = 1 := by kernel_rfl
theorem cz33 : Try.prog.cellsOf 33 = 1 := by kernel_rfl
theorem cz35 : Try.prog.cellsOf 35 = 3 := by kernel_rfl
theorem cz37 : Try.prog.cellsOf 37 = 7 := by kernel_rfl
theorem wf_i64 {n : Int} (h : (Lit.int .i64 n).wf = true) : -9223372036854775808 ≤ n ∧ n ≤ 9223372036854775807 := by
  simp only [Lit.wf, Bool.and_eq_true, decide_eq_true_eq] at h
  have h0 : IntKind.i64.min = -9223372036854775808 := rfl
  have h1 : IntKind.i64.max = 9223372036854775807 := rfl
  rwa [h0, h1] at h
/-- Texts that lie in an argument. -/
theorem open_few {H : Type} {enc : TypeId × Value → H} {W : World} {held : Bool} {fuel : Nat} {cs : List Value} {x : DataW H × List MemPlace} (hf : DataW.trod enc Try.prog W 0 (fun _ => true) held fuel 33 cs = some x) :
    ∃ (pa : Option Addr) (n cap xb xo : Nat) (S : Nat → ByteArray), cs = [.slice pa n cap] ∧ (0 < n → pa = some ⟨xb, xo, none⟩) ∧ (∀ j, j < n → W.cell? ⟨xb, xo + j, none⟩ = some (.string (S j))) ∧ n ≤ 9223372036854775807 := by
  rcases open_strings Try.underlying33 Try.underlying9 cz9 hf with ⟨hcs, _⟩ | ⟨a, len, cp, ss, hcs, _, hl, hm, hlen, _, hx, _⟩
  · exact ⟨none, 0, 0, 0, 0, fun _ => default, hcs, fun h => by omega, fun j hj => by omega, Nat.zero_le _⟩
  · simp only [if_true] at hlen
    by_cases h0 : 0 < len
    · have hs : a.spot = none := by
        have e0 := hx 0 (by omega)
        exact World.cell?_spot (v := .string (ss.getD 0 ByteArray.empty)) (by simpa [Addr.add] using e0)
      obtain ⟨xb, xo, sp⟩ := a
      have hs' : sp = none := hs
      subst hs'
      exact ⟨_, len, cp, xb, xo, fun j => ss.getD j ByteArray.empty, hcs, fun _ => rfl, fun j hj => by
        have h := hx j (by omega)
        by_cases e : j = 0
        · subst e; simpa [Addr.add] using h
        · simpa [Addr.add, e] using h, by unfold maxLen at hm; omega⟩
    · exact ⟨_, len, cp, 0, 0, fun _ => default, hcs, fun h => by omega, fun j hj => by omega, by omega⟩
def acL (a : Ac) : List Value := [.int .i64 a.kind, .int .i64 a.n, .string a.s, .slice a.lp a.ln a.lc, .int .i64 a.fat, .int .i64 a.keep, .int .i64 a.torn]
def AcOk (W : World) (a : Ac) : Prop := (0 < a.ln → a.lp = some ⟨a.lb, a.lo, none⟩) ∧ (∀ j, j < a.ln → W.cell? ⟨a.lb, a.lo + j, none⟩ = some (.string (a.ls j))) ∧ a.ln ≤ 9223372036854775807 ∧ a.torn ≤ 9223372036854775807
set_option maxRecDepth 100000 in
theorem open_ac {H : Type} {enc : TypeId × Value → H} {W : World} {held : Bool} {fuel : Nat} {cs : List Value} {x : DataW H × List MemPlace} (hf : DataW.trod enc Try.prog W 0 (fun _ => true) held fuel 37 cs = some x) :
    ∃ a : Ac, cs = acL a ∧ AcOk W a := by
  obtain ⟨xs, m, _, rfl, hl, hlen, hx⟩ := DataW.trod_struct Try.underlying37 hf
  rw [cz37] at hl
  match cs, hl with
  | [v0, v1, v2, v3, v4, v5, v6], _ =>
    match xs, hlen with
    | [y0, y1, y2, y3, y4], _ =>
      have g0 := hx 0 _ rfl
      have g1 := hx 1 _ rfl
      have g2 := hx 2 _ rfl
      have g3 := hx 3 _ rfl
      have g4 := hx 4 _ rfl
      simp [cz3, cz9, cz33, cz35] at g0 g1 g2 g3 g4
      obtain ⟨k, e0, _, w0⟩ := DataW.trod_int Try.underlying3 g0
      obtain ⟨n, e1, _, w1⟩ := DataW.trod_int Try.underlying3 g1
      obtain ⟨s, e2, _, w2⟩ := DataW.trod_string Try.underlying9 g2
      obtain ⟨pa, ln, cap, xb, xo, S, e3, q1, q2, q3⟩ := open_few g3
      obtain ⟨z0, z1, z2, q, _, _, h0, h1, h2⟩ := trod_struct3 Try.underlying35 g4
      simp [cz3] at h0 h1 h2
      obtain ⟨p, e5, _, w5⟩ := DataW.trod_int Try.underlying3 h0
      obtain ⟨q', e6, _, w6⟩ := DataW.trod_int Try.underlying3 h1
      obtain ⟨r, e7, _, w7⟩ := DataW.trod_int Try.underlying3 h2
      simp at e0 e1 e2 e3 e5 e6 e7
      subst e0; subst e1; subst e2; subst e3; subst e5; subst e6; subst e7
      exact ⟨⟨k, n, s, pa, ln, cap, p, q', r, xb, xo, S⟩, rfl, q1, q2, q3, (wf_i64 w7).2⟩
def noAc : Ac := ⟨0, 0, ⟨#[]⟩, none, 0, 0, 0, 0, 0, 0, 0, fun _ => default⟩
theorem open_acs {H : Type} {enc : TypeId × Value → H} {W : World} {held : Bool} {pa : Option Addr} {n cap : Nat} {d : DataW H} {p : List MemPlace} (h : DataW.Trod enc Try.prog W 0 (fun _ => true) held 22 (.slice pa n cap) d p) :
    ∃ (g o : Nat) (A : Nat → Ac), (0 < n → pa = some ⟨g, o, none⟩) ∧ (∀ j, j < n → AcAt W g (o + j * 7) (A j)) ∧ n ≤ 9223372036854775807 := by
  obtain ⟨fuel, hf⟩ := h
  rcases open_slice Try.underlying22 hf with ⟨hcs, _⟩ | ⟨a, len, cp, m, k, D, Pl, hcs, _, hl, hm, hmm, _, hx⟩
  · simp [Value.cells] at hcs
    obtain ⟨_, rfl, _⟩ := hcs
    exact ⟨0, 0, fun _ => noAc, fun h => by omega, fun j hj => by omega, by omega⟩
  · simp [Value.cells] at hcs
    obtain ⟨rfl, rfl, rfl⟩ := hcs
    simp only [if_true] at hmm
    have each : ∀ i, i < n → ∃ x : Ac, (∀ j u, j < 7 → (acL x)[j]? = some u → W.cell? (a.add (i * 7 + j)) = some u) ∧ AcOk W x := by
      intro i hi
      obtain ⟨cs', h1, h2⟩ := hx i (by omega)
      rw [cz37] at h1
      obtain ⟨_, hlen, hcell⟩ := World.cells?_some h1
      obtain ⟨x, rfl, hok⟩ := open_ac h2
      refine ⟨x, fun j u hj hu => ?_, hok⟩
      have q := hcell j (by omega)
      rw [add_add] at q
      rw [q, hu]
    by_cases h0 : 0 < n
    · have hs : a.spot = none := by
        obtain ⟨x, e0, _⟩ := each 0 h0
        have e1 := e0 0 _ (by decide) rfl
        exact World.cell?_spot (v := .int .i64 x.kind) (by simpa [Addr.add] using e1)
      obtain ⟨xb, xo, sp⟩ := a
      have hs' : sp = none := hs
      subst hs'
      refine ⟨xb, xo, fun i => if hi : i < n then (each i hi).choose else noAc, fun _ => rfl, fun i hi => ?_, by unfold maxLen at hm; omega⟩
      simp only [dif_pos hi]
      obtain ⟨hc, o1, o2, o3, o4⟩ := (each i hi).choose_spec
      generalize (each i hi).choose = x at *
      have cc : ∀ j u, j < 7 → (acL x)[j]? = some u → W.cell? ⟨xb, xo + i * 7 + j, none⟩ = some u := fun j u hj hu => by
        have := hc j u hj hu
        rw [Addr.add_mid] at this
        rw [Nat.add_assoc]
        exact this
      exact ⟨cc 0 _ (by decide) rfl, cc 1 _ (by decide) rfl, cc 2 _ (by decide) rfl, cc 3 _ (by decide) rfl, cc 4 _ (by decide) rfl, cc 5 _ (by decide) rfl, cc 6 _ (by decide) rfl, o1, o2, o3, o4⟩
    · exact ⟨0, 0, fun _ => noAc, fun h => by omega, fun j hj => by omega, by unfold maxLen at hm; omega⟩
end Go.Proofs.Ytddnjlnnkeiplaa
