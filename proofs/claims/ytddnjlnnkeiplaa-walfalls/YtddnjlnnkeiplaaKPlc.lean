/-
  WalPlays: what holds at the loop's head. WalPlays: what holds behind a commit, a record that is appended, and all that is replaced.
-/
import Derived.Test.YtddnjlnnkeiplaaKXPlm
import Derived.Test.YtddnjlnnkeiplaaMcom
import Derived.Deep.DeepCutAuto
namespace Go.Proofs.Ytddnjlnnkeiplaa
open Go.RowKit Go.Maps
/-- Something that is done, as it lies in memory. -/
structure Ac where
  kind : Int
  n : Int
  s : ByteArray
  lp : Option Addr
  ln : Nat
  lc : Nat
  fat : Int
  keep : Int
  torn : Int
  lb : Nat
  lo : Nat
  ls : Nat → ByteArray
structure AcAt (w : World) (g o : Nat) (a : Ac) : Prop where
  c0 : w.cell? ⟨g, o, none⟩ = some (.int .i64 a.kind)
  c1 : w.cell? ⟨g, o + 1, none⟩ = some (.int .i64 a.n)
  c2 : w.cell? ⟨g, o + 2, none⟩ = some (.string a.s)
  c3 : w.cell? ⟨g, o + 3, none⟩ = some (.slice a.lp a.ln a.lc)
  c4 : w.cell? ⟨g, o + 4, none⟩ = some (.int .i64 a.fat)
  c5 : w.cell? ⟨g, o + 5, none⟩ = some (.int .i64 a.keep)
  c6 : w.cell? ⟨g, o + 6, none⟩ = some (.int .i64 a.torn)
  lp : 0 < a.ln → a.lp = some ⟨a.lb, a.lo, none⟩
  lcell : ∀ j, j < a.ln → w.cell? ⟨a.lb, a.lo + j, none⟩ = some (.string (a.ls j))
  len : a.ln ≤ 9223372036854775807
  torn : a.torn ≤ 9223372036854775807
theorem AcAt.kept {w w' : World} {g o : Nat} {a : Ac} (h : AcAt w g o a) (hg : w.grownBy w' none) : AcAt w' g o a :=
  ⟨cell_kept h.c0 hg (fun _ e => by cases e), cell_kept h.c1 hg (fun _ e => by cases e), cell_kept h.c2 hg (fun _ e => by cases e), cell_kept h.c3 hg (fun _ e => by cases e), cell_kept h.c4 hg (fun _ e => by cases e), cell_kept h.c5 hg (fun _ e => by cases e), cell_kept h.c6 hg (fun _ e => by cases e), h.lp, fun j hj => cell_kept (h.lcell j hj) hg (fun _ e => by cases e), h.len, h.torn⟩
/-- What holds at the loop's head. -/
structure PlI (w : World) (M k b : Nat) (wr : World) (fr : List Fr) (ts : List ByteArray) (F : Option ByteArray) (c mk : Nat) (sv wv : Value) (Tl : List (Nat × ByteArray)) : Prop where
  log : IsLog wr w.heap.size b (logP w.heap.size fr ts)
  disk : IsDisk wr w.heap.size w.heap.size (Dn F c)
  file : F.getD ⟨#[]⟩ = bytL fr
  shut : Shut fr
  fsz : ∀ x ∈ fr, x.2.size ≤ 300
  tsz : ∀ t ∈ ts, t.size ≤ 300
  cnt : fr.length + ts.length ≤ k + 7
  chg : c ≤ 2 * k
  mks : mk ≤ k
  mrk : (frG w.heap.size fr).marked = decide (0 < mk)
  blk : Blk wr M 32 (mdlV sv wv (bytL fr).size (bytL (ts.map recF)).size (frG w.heap.size fr).root mk)
  sure : Recs wr 0 sv (frG w.heap.size fr).recs
  wait : Recs wr 0 wv Tl
  all : (logP w.heap.size fr ts).recs = (frG w.heap.size fr).recs ++ Tl
  mem : w.heap.size < M
  grown : w.grownBy wr none
theorem bytL_le : ∀ l : List Fr, (∀ x ∈ l, x.2.size ≤ 300) → (bytL l).size ≤ l.length * 309
  | [], _ => Nat.le_refl _
  | x :: r, h => by
    have h1 := bytL_le r (fun y hy => h y (List.mem_cons_of_mem _ hy))
    have h2 := h x List.mem_cons_self
    show (Wi.frmS (frT x) ++ bytL r).size ≤ (r.length + 1) * 309
    rw [ByteArray.size_append, one_len]
    omega
theorem PlI.recsz {w wr : World} {M k b c mk : Nat} {fr : List Fr} {ts : List ByteArray} {F : Option ByteArray} {sv wv : Value} {Tl : List (Nat × ByteArray)} (h : PlI w M k b wr fr ts F c mk sv wv Tl) : (logP w.heap.size fr ts).recs.length ≤ k + 7 := by
  have h1 := (fok_all w.heap.size (fr ++ ts.map recF)).few
  rw [List.length_append, List.length_map] at h1
  have h2 := h.cnt
  show (frG w.heap.size (fr ++ ts.map recF)).recs.length ≤ k + 7
  omega
theorem PlI.bytes {w wr : World} {M k b c mk : Nat} {fr : List Fr} {ts : List ByteArray} {F : Option ByteArray} {sv wv : Value} {Tl : List (Nat × ByteArray)} (h : PlI w M k b wr fr ts F c mk sv wv Tl) : (bytL (fr ++ ts.map recF)).size ≤ (k + 7) * 309 ∧ (bytL fr).size + (bytL (ts.map recF)).size = (bytL (fr ++ ts.map recF)).size := by
  have h1 := bytL_le (fr ++ ts.map recF) (fun x hx => by
    rcases List.mem_append.1 hx with hx | hx
    · exact h.fsz x hx
    · obtain ⟨t, ht, rfl⟩ := List.mem_map.1 hx
      exact h.tsz t ht)
  rw [List.length_append, List.length_map] at h1
  have h2 := Nat.mul_le_mul_right 309 h.cnt
  refine ⟨Nat.le_trans h1 h2, ?_⟩
  rw [bytL_app, ByteArray.size_append]
theorem PlI.kept {w wr wr' : World} {M k b c mk : Nat} {fr : List Fr} {ts : List ByteArray} {F : Option ByteArray} {sv wv : Value} {Tl : List (Nat × ByteArray)} (h : PlI w M k b wr fr ts F c mk sv wv Tl) (hg : wr.grownBy wr' none) : PlI w M k b wr' fr ts F c mk sv wv Tl :=
  { h with
    log := h.log.kept hg
    disk := h.disk.kept hg
    blk := h.blk.kept hg (by simp)
    sure := h.sure.none hg
    wait := h.wait.none hg
    grown := grown_none h.grown hg }
theorem PlI.up {w wr : World} {M k k' b c mk : Nat} {fr : List Fr} {ts : List ByteArray} {F : Option ByteArray} {sv wv : Value} {Tl : List (Nat × ByteArray)} (h : PlI w M k b wr fr ts F c mk sv wv Tl) (hk : k ≤ k') : PlI w M k' b wr fr ts F c mk sv wv Tl :=
  { h with
    cnt := by have := h.cnt; omega
    chg := by have := h.chg; omega
    mks := by have := h.mks; omega }
/-- The log has just what the model has. -/
theorem PlI.same {w wr : World} {M k b c mk : Nat} {fr : List Fr} {ts : List ByteArray} {F : Option ByteArray} {sv wv : Value} {Tl : List (Nat × ByteArray)} (h : PlI w M k b wr fr ts F c mk sv wv Tl) (hk : k ≤ 60) :
    Calls Try.prog 24 #[.pointer (some ⟨b, 0, none⟩), .agg (mdlV sv wv (bytL fr).size (bytL (ts.map recF)).size (frG w.heap.size fr).root mk)] wr fun e w' => e = .returned (.bool true) ∧ wr.grownBy w' none := by
  have hz := h.recsz
  have ha := logP_asc w.heap.size fr ts
  have hl := congrArg List.length h.all
  rw [List.length_append] at hl
  exact same_any w.heap.size b 0 (logP w.heap.size fr ts) (frG w.heap.size fr).recs Tl sv wv mk wr h.log h.sure h.wait ha (by omega) (fun r hr => by
    rw [← h.all] at hr
    exact atR_mem ha hr) h.mrk (by omega)
theorem PlI.start {w w3 : World} {b : Nat} (hl : IsLog w3 w.heap.size b (logP w.heap.size [] [])) (hd : IsDisk w3 w.heap.size w.heap.size (Dn none 0)) (hg : w.grownBy w3 none) (hw : w.heap.size < w3.heap.size) :
    PlI w w3.heap.size 0 b (w3.alloc (.cells #[.slice none 0 0, .slice none 0 0, .int .i64 0, .int .i64 0, .string ⟨#[]⟩, .int .i64 0] 32)) [] [] none 0 0 (.slice none 0 0) (.slice none 0 0) [] where
  log := hl.kept (grown_alloc (grown_refl _ _) _)
  disk := hd.kept (grown_alloc (grown_refl _ _) _)
  file := rfl
  shut := Or.inl rfl
  fsz := fun x hx => by cases hx
  tsz := fun x hx => by cases hx
  cnt := by decide
  chg := Nat.le_refl _
  mks := Nat.le_refl _
  mrk := rfl
  blk := Blk.new w3 32 _
  sure := recs_nil _ _
  wait := recs_nil _ _
  all := rfl
  mem := hw
  grown := grown_alloc hg _
/-- Behind a call of the log's or the disk's, the log and the disk told anew. -/
theorem PlI.over {w wr wr' : World} {M k b c mk : Nat} {fr : List Fr} {ts : List ByteArray} {F : Option ByteArray} {sv wv : Value} {Tl : List (Nat × ByteArray)} (h : PlI w M k b wr fr ts F c mk sv wv Tl) (hT : Low w.heap.size wr wr') :
    Blk wr' M 32 (mdlV sv wv (bytL fr).size (bytL (ts.map recF)).size (frG w.heap.size fr).root mk) ∧ Recs wr' 0 sv (frG w.heap.size fr).recs ∧ Recs wr' 0 wv Tl ∧ w.grownBy wr' none :=
  ⟨low_blk hT h.blk ⟨by decide, by decide, by decide, by decide, by decide⟩, h.sure.low hT, h.wait.low hT, Low.grown h.grown hT⟩
/-- A store into the law's own cells leaves a log and a disk. -/
theorem IsLog.law {w w' : World} {base b M : Nat} {g : Lg} {cs : Array Value} (h : IsLog w base b g) (hM : Blk w M 32 cs) (hg : w.grownBy w' (some M)) : IsLog w' base b g := by
  obtain ⟨h0, vr, vw, hb, hr, hw⟩ := h
  exact ⟨h0, vr, vw, hb.kept hg (fun e => far_ne' hb hM (by decide) (Option.some.inj e)), rowG_kept hr hM (by decide) hg, rowG_kept hw hM (by decide) hg⟩
theorem IsDisk.law {w w' : World} {base b M : Nat} {k : Dk} {cs : Array Value} (h : IsDisk w base b k) (hM : Blk w M 32 cs) (hg : w.grownBy w' (some M)) : IsDisk w' base b k := by
  obtain ⟨h0, vn, vs, vl, hB, hn, hs, hne, hl⟩ := h
  have keepV : ∀ v l, MapV w base v l → MapV w' base v l := fun v l hv => by
    rcases hv with hv | ⟨q, rfl, hq, ho⟩
    · exact Or.inl hv
    · exact Or.inr ⟨q, rfl, hq, ho.kept hg (fun e => hM.ne_map ho (Option.some.inj e).symm)⟩
  exact ⟨h0, vn, vs, vl, hB.kept hg (fun e => far_ne' hB hM (by decide) (Option.some.inj e)), keepV _ _ hn, keepV _ _ hs, hne, rowG_kept hl hM (by decide) hg⟩
end Go.Proofs.Ytddnjlnnkeiplaa
namespace Go.Proofs.Ytddnjlnnkeiplaa
open Go.RowKit Go.Maps
theorem PlI.commit {w wr W : World} {M k b c mk : Nat} {fr : List Fr} {ts : List ByteArray} {F : Option ByteArray} {sv wv sv' : Value} {Tl : List (Nat × ByteArray)} {r : ByteArray} (h : PlI w M k b wr fr ts F c mk sv wv Tl)
    (hl : IsLog W w.heap.size b (logP w.heap.size (fr ++ ts.map recF ++ [(false, r)]) [])) (hd : IsDisk W w.heap.size w.heap.size (Dn (some (bytL (fr ++ ts.map recF ++ [(false, r)]))) (c + 1)))
    (hb : Blk W M 32 (mdlV sv' (.slice none 0 0) ((bytL fr).size + ((bytL (ts.map recF)).size + (r.size + 9))) 0 r (mk + 1))) (hs : Recs W 0 sv' ((frG w.heap.size fr).recs ++ Tl)) (hg : w.grownBy W none) (hr : r.size ≤ 300) :
    PlI w M (k + 1) b W (fr ++ ts.map recF ++ [(false, r)]) [] (some (bytL (fr ++ ts.map recF ++ [(false, r)]))) (c + 1) (mk + 1) sv' (.slice none 0 0) [] := by
  have hf := mark_frame w.heap.size (fr ++ ts.map recF) r
  have hz : (bytL (fr ++ ts.map recF ++ [(false, r)])).size = (bytL fr).size + ((bytL (ts.map recF)).size + (r.size + 9)) := by
    rw [bytL_app, bytL_app, bytL_one, ByteArray.size_append, ByteArray.size_append, one_len]
    show _ + (r.size + 9) = _
    omega
  have hR : (frG w.heap.size (fr ++ ts.map recF ++ [(false, r)])).recs = (frG w.heap.size fr).recs ++ Tl := by rw [hf]; exact h.all
  have hT : (frG w.heap.size (fr ++ ts.map recF ++ [(false, r)])).root = r := by rw [hf]
  have hM : (frG w.heap.size (fr ++ ts.map recF ++ [(false, r)])).marked = true := by rw [hf]
  exact {
    log := hl, disk := hd, file := rfl, shut := shut_snoc _ _
    fsz := fun x hx => by
      rcases List.mem_append.1 hx with hx | hx
      · rcases List.mem_append.1 hx with hx | hx
        · exact h.fsz x hx
        · obtain ⟨t, ht, rfl⟩ := List.mem_map.1 hx
          exact h.tsz t ht
      · rw [List.mem_singleton.1 hx]
        exact hr
    tsz := fun x hx => by cases hx
    cnt := by have := h.cnt; rw [List.length_append, List.length_append, List.length_map]; show _ + 1 + 0 ≤ _; omega
    chg := by have := h.chg; omega
    mks := by have := h.mks; omega
    mrk := by rw [hM]; simp
    blk := by rw [hz, hT]; exact hb
    sure := by rw [hR]; exact hs
    wait := recs_nil _ _
    all := by show (frG w.heap.size ((fr ++ ts.map recF ++ [(false, r)]) ++ [])).recs = _; rw [List.append_nil, List.append_nil]
    mem := h.mem
    grown := hg }
theorem PlI.replace {w wr W : World} {M k b c mk : Nat} {fr : List Fr} {ts : List ByteArray} {F : Option ByteArray} {sv wv sv' : Value} {Tl : List (Nat × ByteArray)} {l : List ByteArray} {r : ByteArray} (h : PlI w M k b wr fr ts F c mk sv wv Tl)
    (hl : IsLog W w.heap.size b (logP w.heap.size (l.map recF ++ [(false, r)]) [])) (hd : IsDisk W w.heap.size w.heap.size (Dn (some (bytL (l.map recF ++ [(false, r)]))) (c + 2)))
    (hb : Blk W M 32 (mdlV sv' (.slice none 0 0) (offK l l.length + (r.size + 9)) 0 r 1)) (hs : Recs W 0 sv' (plcK l l.length)) (hg : w.grownBy W none) (h6 : l.length ≤ 6) (ht : ∀ t ∈ l, t.size ≤ 300) (hr : r.size ≤ 300) :
    PlI w M (k + 1) b W (l.map recF ++ [(false, r)]) [] (some (bytL (l.map recF ++ [(false, r)]))) (c + 2) 1 sv' (.slice none 0 0) [] := by
  have hf := mark_frame w.heap.size (l.map recF) r
  have hp := (bytL_text w.heap.size l l.length (Nat.le_refl _)).2
  rw [List.take_length] at hp
  have hz : (bytL (l.map recF ++ [(false, r)])).size = offK l l.length + (r.size + 9) := by
    rw [whole_frames, wholeT_size]
    rfl
  have hR : (frG w.heap.size (l.map recF ++ [(false, r)])).recs = plcK l l.length := by rw [hf]; exact hp
  have hT : (frG w.heap.size (l.map recF ++ [(false, r)])).root = r := by rw [hf]
  have hM : (frG w.heap.size (l.map recF ++ [(false, r)])).marked = true := by rw [hf]
  exact {
    log := hl, disk := hd, file := rfl, shut := shut_snoc _ _
    fsz := fun x hx => by
      rcases List.mem_append.1 hx with hx | hx
      · obtain ⟨t, htm, rfl⟩ := List.mem_map.1 hx
        exact ht t htm
      · rw [List.mem_singleton.1 hx]
        exact hr
    tsz := fun x hx => by cases hx
    cnt := by rw [List.length_append, List.length_map]; show _ + 1 + 0 ≤ _; omega
    chg := by have := h.chg; omega
    mks := by omega
    mrk := by rw [hM]; rfl
    blk := by rw [hz, hT]; exact hb
    sure := by rw [hR]; exact hs
    wait := recs_nil _ _
    all := by show (frG w.heap.size ((l.map recF ++ [(false, r)]) ++ [])).recs = _; rw [List.append_nil, List.append_nil]
    mem := h.mem
    grown := hg }
theorem PlI.append {w wr W : World} {M k b c mk : Nat} {fr : List Fr} {ts : List ByteArray} {F : Option ByteArray} {sv wv wv' : Value} {Tl : List (Nat × ByteArray)} {s : ByteArray} (h : PlI w M k b wr fr ts F c mk sv wv Tl)
    (hl : IsLog W w.heap.size b (logP w.heap.size fr (ts ++ [s]))) (hd : IsDisk W w.heap.size w.heap.size (Dn F c))
    (hb : Blk W M 32 (mdlV sv wv' (bytL fr).size ((bytL (ts.map recF)).size + (s.size + 9)) (frG w.heap.size fr).root mk)) (hs : Recs W 0 sv (frG w.heap.size fr).recs) (hw : Recs W 0 wv' (Tl ++ [((bytL fr).size + (bytL (ts.map recF)).size, s)])) (hg : w.grownBy W none) (hr : s.size ≤ 300) :
    PlI w M (k + 1) b W fr (ts ++ [s]) F c mk sv wv' (Tl ++ [((bytL fr).size + (bytL (ts.map recF)).size, s)]) := by
  have e1 : (ts ++ [s]).map recF = ts.map recF ++ [recF s] := by rw [List.map_append]; rfl
  have hz : (bytL ((ts ++ [s]).map recF)).size = (bytL (ts.map recF)).size + (s.size + 9) := by
    rw [e1, bytL_app, bytL_one, ByteArray.size_append, one_len]
    rfl
  have hA : (logP w.heap.size fr (ts ++ [s])).recs = (logP w.heap.size fr ts).recs ++ [((bytL fr).size + (bytL (ts.map recF)).size, s)] := by
    rw [← logP_append]
    rfl
  exact {
    log := hl, disk := hd, file := h.file, shut := h.shut, fsz := h.fsz
    tsz := fun x hx => by
      rcases List.mem_append.1 hx with hx | hx
      · exact h.tsz x hx
      · rw [List.mem_singleton.1 hx]
        exact hr
    cnt := by have := h.cnt; rw [List.length_append]; show _ + (_ + 1) ≤ _; omega
    chg := by have := h.chg; omega
    mks := by have := h.mks; omega
    mrk := h.mrk
    blk := by rw [hz]; exact hb
    sure := hs
    wait := hw
    all := by rw [hA, h.all, List.append_assoc]
    mem := h.mem
    grown := hg }
end Go.Proofs.Ytddnjlnnkeiplaa
